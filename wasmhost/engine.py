"""Engines: everything together."""

from wasmhost.acceptance import file_of
from wasmhost.access import read_memory, read_table, read_variable
from wasmhost.debugger import listed_frames, run_to_depth
from wasmhost.deeds import check_room, check_steps, do_deed
from wasmhost.errors import NoSuchItem
from wasmhost.fast.lower import blocks, count_slots
from wasmhost.fast.passes import improve
from wasmhost.fast.run import fast_entry, heights_of, run_fast
from wasmhost.items import code_at, is_own, item_at, items_of, place_in_module
from wasmhost.link import link, resolve
from wasmhost.machine.state import Machine
from wasmhost.machine.step import step
from wasmhost.names import publish_items, put_name
from wasmhost.records import replayed, write_record
from wasmhost.save.digests import digest_of
from wasmhost.save.loader import load_save
from wasmhost.save.writer import machine_save, write_save
from wasmhost.store import Store


class Engine:
    """A machine with a list of names, breakpoints, functions that run fast, and perhaps a record."""

    def __init__(self):
        self.reset(Machine(Store()))

    def reset(self, machine):
        """Takes a machine, without names, breakpoints, fast functions and a record."""
        self.machine = machine
        self.kept = {}
        self.known = []
        self.points = []
        self.fast = {}
        self.base = None
        self.rows = []

    def note(self, deed):
        """Notes a deed that has been performed, if the engine records."""
        if self.base is not None:
            self.rows.append((deed, self.digest()))

    def perform(self, deed):
        """Performs a deed and notes it."""
        result = do_deed(self.machine, deed)
        self.note(deed)
        return result

    # Linking

    def add_host(self, params, results):
        """Adds a host function and returns its number among the functions."""
        return self.perform(("host", params, results))

    def define(self, module, name, kind, index):
        """Puts a name."""
        item_at(self.machine.store, kind, index)
        put_name(self.known, module, name, kind, index)

    def exported(self, instance):
        """Returns the list of tuples (name, kind, index) of what an instance shows."""
        found = item_at(self.machine.store, "instance", instance)
        return [(name, kind, items_of(found, kind)[index]) for name, kind, index in found.module.exports]

    def publish(self, instance, module):
        """Puts a name for each export of an instance."""
        publish_items(self.known, module, self.exported(instance))

    def names(self):
        """Returns a list of all names."""
        return list(self.known)

    def instantiate(self, module):
        """Adds an instance of a module. Returns its number, and None or the reason of the trap."""
        file = file_of(module)
        check_room(self.machine)
        store = self.machine.store
        found = resolve(store, self.known, module)
        number = len(store.instances)
        reason = link(store, module, found)
        self.note(("instance", tuple(file), found))
        return number, reason

    def shown(self, instance, name):
        """Returns the tuple (kind, index) of what an instance shows under a name, or None."""
        for row in self.exported(instance):
            if row[0] == name:
                return row[1:]
        return None

    def signature(self, func):
        """Returns the parameters and results of a function, and the number of its places."""
        params, results = item_at(self.machine.store, "func", func)[-1]
        return params, results, len(code_at(self.machine.store, func))

    # Access from outside

    def read(self, memory, at, count):
        """Returns the list of so many bytes of a memory from a place on."""
        return read_memory(self.machine.store, memory, at, count)

    def write(self, memory, at, data):
        """Replaces the bytes of a memory from a place on."""
        self.perform(("write", memory, at, tuple(data)))

    def variable(self, index):
        """Returns the value of a global."""
        return read_variable(self.machine.store, index)

    def set_variable(self, index, value):
        """Changes the value of a global."""
        self.perform(("variable", index, value))

    def table(self, table):
        """Returns a list of the entries of a table."""
        return read_table(self.machine.store, table)

    def set_table(self, table, at, func):
        """Changes an entry of a table to a function or to None."""
        self.perform(("table", table, at, func))

    def pages(self, memory):
        """Returns the number of pages of a memory."""
        return item_at(self.machine.store, "memory", memory).pages

    # Running

    def call(self, func, arguments):
        """Begins a run with a call of a function."""
        self.perform(("call", func, tuple(arguments)))

    def start(self, instance):
        """Begins a run with a call of the start function of an instance."""
        found = item_at(self.machine.store, "instance", instance)
        if found.module.start is None:
            raise NoSuchItem("start", instance)
        self.call(found.functions[found.module.start], ())

    def status(self):
        """Returns the status of the machine with the number of steps that it has done behind it."""
        return self.machine.status + (self.machine.spent,)

    def run(self, steps):
        """Takes steps up to a breakpoint. Returns how many were taken."""
        check_steps(steps)
        taken = run_fast(self.machine, steps, self.fast, self.points)
        self.note(("run", taken))
        return taken

    def run_out(self, steps, depth):
        """Takes steps up to a breakpoint, or until no more than so many calls are in progress."""
        check_steps(steps)
        taken = run_to_depth(self.machine, steps, self.points, depth)
        self.note(("run", taken))
        return taken

    def over(self, steps):
        """Takes steps until no more calls are in progress than now. Returns how many were taken."""
        return self.run_out(steps, len(self.machine.frames))

    def out(self, steps):
        """Takes steps until fewer calls are in progress than now. Returns how many were taken."""
        return self.run_out(steps, len(self.machine.frames) - 1)

    def into(self):
        """Takes one step if the machine is running. Returns how many were taken."""
        taken = int(step(self.machine))
        self.note(("run", taken))
        return taken

    def answer(self, results):
        """Answers with values."""
        self.perform(("answer", tuple(results)))

    def answer_throw(self, tag, results):
        """Answers with an exception."""
        self.perform(("throw", tag, tuple(results)))

    def answer_trap(self, reason):
        """Answers with a trap."""
        self.perform(("trap", reason))

    # Debugging

    def check_point(self, func, place):
        """Checks that a function has a place."""
        item_at(self.machine.store, "func", func)
        if not 0 <= place < len(code_at(self.machine.store, func)):
            raise NoSuchItem("place", place)

    def break_at(self, func, place):
        """Sets a breakpoint."""
        self.check_point(func, place)
        if (func, place) not in self.points:
            self.points = sorted(self.points + [(func, place)])

    def clear_break(self, func, place):
        """Removes a breakpoint."""
        self.check_point(func, place)
        if (func, place) not in self.points:
            raise NoSuchItem("break", place)
        self.points.remove((func, place))

    def breaks(self):
        """Returns a list of the breakpoints, in ascending order."""
        return list(self.points)

    def frames(self):
        """Returns a list of the calls in progress, the innermost first."""
        return listed_frames(self.machine)

    def set_local(self, frame, local, value):
        """Changes a local of a call. The innermost call is 0."""
        self.perform(("local", frame, local, value))

    # Fast functions

    def module_place(self, func):
        """Returns the module that defines a function, and its index there."""
        if not is_own(self.machine.store, func):
            raise NoSuchItem("func", func)
        return place_in_module(self.machine.store, func)

    def make_fast(self, func):
        """Lets a function run fast. Returns True if it did not run fast already, otherwise False."""
        module, index = self.module_place(func)
        if func in self.fast:
            return False
        self.fast[func] = fast_entry(module, index)
        return True

    def make_plain(self, func):
        """Lets a function run step by step. Returns True if it ran fast, otherwise False."""
        item_at(self.machine.store, "func", func)
        if func not in self.fast:
            return False
        del self.fast[func]
        return True

    def fast_functions(self):
        """Returns the list of the functions that run fast, in ascending order."""
        return sorted(self.fast)

    def block_at(self, func, place):
        """Returns the block that begins at a place, not improved, or None."""
        module, index = self.module_place(func)
        for block in blocks(module, index):
            if block[0] == place:
                return block
        return None

    def improved_at(self, func, place):
        """Returns the improved block that begins at a place, or None."""
        block = self.block_at(func, place)
        if block is None:
            return None
        module, index = self.module_place(func)
        return improve(block, heights_of(module, index), count_slots(module, index))

    # Saves and records

    def save(self):
        """Returns the save of the engine, a list of bytes."""
        return write_save(self.machine, self.known, self.points, self.fast_functions())

    def restore(self, data):
        """Replaces everything that the engine has by what a save has."""
        loaded = load_save(data)
        self.reset(loaded.machine)
        self.known = loaded.known
        self.points = loaded.points
        for func in list(loaded.fast):
            self.make_fast(func)

    def digest(self):
        """Returns the digest of the machine."""
        return digest_of(self.machine, self.kept)

    def record(self):
        """Begins to record."""
        self.base = machine_save(self.machine)
        self.rows = []

    def recorded(self):
        """Returns the number of rows that have been recorded, or None."""
        if self.base is None:
            return None
        return len(self.rows)

    def stop(self):
        """Ends recording and returns the record, a list of bytes, or None."""
        if self.base is None:
            return None
        data = write_record(self.base, self.rows)
        self.base = None
        self.rows = []
        return data

    def replay(self, data):
        """Replays a record. Returns the number of its rows."""
        machine, count = replayed(data)
        self.reset(machine)
        return count

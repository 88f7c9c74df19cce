"""What is done to a machine from outside, with all errors."""

from wasmhost.acceptance import module_of
from wasmhost.access import write_memory, write_table, write_variable
from wasmhost.errors import BadValues, Busy, HostError, ImportMissing, ImportUnfit, LimitReached, NoSuchItem, NotAsked
from wasmhost.errors import OutOfRange
from wasmhost.items import has_item, host_functions, item_at, slot_kinds
from wasmhost.limits import MOST_INSTANCES, MOST_STEPS
from wasmhost.link import add_host, check_signature, item_fits, link
from wasmhost.machine.outside import answer, answer_throw, answer_trap, begin
from wasmhost.machine.step import run
from wasmhost.reasons import REASONS
from wasmhost.store import value_fits, values_fit


def check_idle(machine):
    """Checks that no run is in progress."""
    if machine.status[0] in ("running", "asks"):
        raise Busy()


def check_asked(machine):
    """Checks that the machine asks."""
    if machine.status[0] != "asks":
        raise NotAsked()


def check_values(kinds, values):
    """Checks that values match these kinds."""
    if not values_fit(kinds, values):
        raise BadValues()


def check_steps(steps):
    """Checks a number of steps."""
    if not 0 <= steps <= MOST_STEPS:
        raise OutOfRange("steps")


def check_room(machine):
    """Checks that an instance can be added."""
    check_idle(machine)
    if len(machine.store.instances) >= MOST_INSTANCES:
        raise LimitReached("instances")


def check_found(store, module, found):
    """Checks that there is exactly one fitting item for each import of the module."""
    if len(found) != len(module.imports):
        raise ImportMissing(min(len(found), len(module.imports)))
    for index, row in enumerate(module.imports):
        if not has_item(store, row[2], found[index]) or not item_fits(store, module, row, found[index]):
            raise ImportUnfit(index)


def do_host(machine, params, results):
    """Adds a host function and returns its number among the functions."""
    check_signature(params, results)
    check_idle(machine)
    return add_host(machine.store, params, results)


def do_instance(machine, file, found):
    """Adds an instance of the module of a file. Returns None or the reason of the trap."""
    module = module_of(file)
    check_room(machine)
    check_found(machine.store, module, found)
    return link(machine.store, module, found)


def do_call(machine, func, values):
    """Begins a run."""
    params, _ = item_at(machine.store, "func", func)[-1]
    check_values(params, values)
    check_idle(machine)
    begin(machine, func, values)


def do_run(machine, steps):
    """Takes steps. Returns how many were taken."""
    check_steps(steps)
    return run(machine, steps)


def do_answer(machine, values):
    """Answers with values."""
    check_asked(machine)
    func = host_functions(machine.store)[machine.status[1]]
    _, results = machine.store.functions[func][-1]
    check_values(results, values)
    answer(machine, values)


def do_throw(machine, tag, values):
    """Answers with an exception."""
    check_asked(machine)
    params, _ = item_at(machine.store, "tag", tag)
    check_values(params, values)
    answer_throw(machine, tag, values)


def do_trap(machine, reason):
    """Answers with a trap."""
    check_asked(machine)
    if reason not in REASONS:
        raise OutOfRange("reason")
    answer_trap(machine, reason)


def do_write(machine, memory, at, data):
    """Changes a memory."""
    write_memory(machine.store, memory, at, data)


def do_variable(machine, index, value):
    """Changes a global."""
    write_variable(machine.store, index, value)


def do_table(machine, table, at, func):
    """Changes an entry of a table."""
    write_table(machine.store, table, at, func)


def do_local(machine, frame, local, value):
    """Changes a local of a call. The innermost call is 0."""
    if not 0 <= frame < len(machine.frames):
        raise NoSuchItem("frame", frame)
    found = machine.frames[len(machine.frames) - 1 - frame]
    if not 0 <= local < len(found.slots):
        raise NoSuchItem("local", local)
    if not value_fits(slot_kinds(machine.store, found.func)[local], value):
        raise BadValues()
    found.slots[local] = value


ACTIONS = {
    "host": do_host,
    "instance": do_instance,
    "call": do_call,
    "run": do_run,
    "answer": do_answer,
    "throw": do_throw,
    "trap": do_trap,
    "write": do_write,
    "variable": do_variable,
    "table": do_table,
    "local": do_local,
}


def do_deed(machine, deed):
    """Performs a deed. Returns what the function for deeds of this name returns."""
    action = ACTIONS[deed[0]]
    parts = deed[1:]
    return action(machine, *parts)


def can_do(machine, deed):
    """Performs a deed and returns True, or changes nothing and returns False if it cannot be performed."""
    try:
        do_deed(machine, deed)
    except HostError:
        return False
    return True

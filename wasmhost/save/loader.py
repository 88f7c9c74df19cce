"""The engine that a save describes."""

from wasmhost.items import code_at, has_item, host_functions, is_own
from wasmhost.limits import MOST_KINDS, MOST_NAMES
from wasmhost.machine.state import Frame, Machine
from wasmhost.save.call_checks import check_calls, check_functions
from wasmhost.save.form import read_form
from wasmhost.save.need import need
from wasmhost.save.store_loader import load_store
from wasmhost.store import values_fit


class Loaded:
    """What a save describes: a machine, a list of names, and lists of breakpoints and of functions that run fast."""

    def __init__(self, machine, known, points, fast):
        self.machine = machine
        self.known = known
        self.points = points
        self.fast = fast


def check_finished(values):
    """Checks the values with which a run has finished."""
    need(len(values) <= MOST_KINDS, "status")
    need(values_fit(("i64",) * len(values), values), "status")


def check_thrown(store, tag, values):
    """Checks an exception."""
    need(has_item(store, "tag", tag), "status")
    need(values_fit(store.tags[tag][0], values), "status")


def check_asked(store, number, values):
    """Checks what the host is asked."""
    hosts = host_functions(store)
    need(number < len(hosts), "status")
    params, _ = store.functions[hosts[number]][-1]
    need(values_fit(params, values), "status")


def check_status(store, status, calls):
    """Checks a status of a machine with so many calls."""
    name = status[0]
    if name == "running":
        need(calls > 0, "status")
    if name in ("finished", "thrown"):
        need(calls == 0, "status")
    if name == "finished":
        check_finished(status[1])
    if name == "thrown":
        check_thrown(store, status[1], status[2])
    if name == "asks":
        check_asked(store, status[1], status[2])


def load_frame(store, row):
    """Returns a call."""
    func, place, slots, stack = row
    return Frame(func, store.functions[func][1], place, list(slots), list(stack))


def load_machine(form):
    """Returns the machine that a form describes."""
    machine = Machine(load_store(form))
    check_status(machine.store, form.status, len(form.frames))
    check_functions(machine.store, [row[0] for row in form.frames])
    machine.frames = [load_frame(machine.store, row) for row in form.frames[::-1]]
    machine.status = form.status
    machine.spent = form.spent
    check_calls(machine)
    return machine


def check_names(store, rows):
    """Checks a list of names."""
    need(len(rows) <= MOST_NAMES, "names")
    pairs = {}
    for row in rows:
        need(row[:2] not in pairs, "names")
        need(has_item(store, row[2], row[3]), "names")
        pairs[row[:2]] = True


def is_ascending(rows):
    """Returns True if each row is greater than the one before it, otherwise False."""
    return all([first < second for first, second in zip(rows, rows[1:])])


def check_points(store, points):
    """Checks breakpoints."""
    need(is_ascending(points), "points")
    for func, place in points:
        need(is_own(store, func), "points")
        need(place < len(code_at(store, func)), "points")


def check_fast(store, fast):
    """Checks the functions that run fast."""
    need(is_ascending(fast), "points")
    for func in fast:
        need(is_own(store, func), "points")


def load_save(data):
    """Returns what a save describes."""
    form = read_form(data)
    machine = load_machine(form)
    check_names(machine.store, form.known)
    check_points(machine.store, form.points)
    check_fast(machine.store, form.fast)
    return Loaded(machine, list(form.known), list(form.points), list(form.fast))

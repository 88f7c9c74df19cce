"""What several tests of machines need."""
import copy

from wasmhost.check.modules import check
from wasmhost.link import link
from wasmhost.machine.outside import begin
from wasmhost.machine.state import Machine
from wasmhost.machine.step import run, step
from wasmhost.store import Store
from wasmhost.text.modules import parse


def linked(text, store=None, found=()):
    """A store to which the module of this text has been linked. The module must be valid."""
    module = parse(text)
    assert check(module) is None, (check(module), text)
    store = Store() if store is None else store
    assert link(store, module, found) is None, text
    return store


def started(text, arguments=(), func=0, found=(), store=None):
    """A machine that has begun a call of a function of the module of this text."""
    machine = Machine(linked(text, store, found))
    begin(machine, func, arguments)
    return machine


def finished(text, arguments=(), func=0):
    """The status and the number of steps of a whole run."""
    machine = started(text, arguments, func)
    run(machine, 100000)
    return machine.status, machine.spent


def picture(machine):
    """Everything that a machine and its store have, apart from modules and code, as plain values."""
    store = machine.store
    return copy.deepcopy((
        [vars(frame) for frame in machine.frames], machine.status, machine.spent, store.functions,
        [vars(table) for table in store.tables], [vars(memory) for memory in store.memories],
        [vars(variable) for variable in store.variables], store.tags,
        [(each.functions, each.tables, each.memories, each.variables, each.tags) for each in store.instances]))


def stepped(machine, count):
    """Does so many steps, all of which must be possible."""
    for _ in range(count):
        assert step(machine) is True
    return machine


def twin(machine):
    """Another machine in the same state. The two share modules and code only, which no machine changes."""
    store = Store()
    for name in ("functions", "tags", "instances"):
        setattr(store, name, list(getattr(machine.store, name)))
    for name in ("tables", "memories", "variables"):
        setattr(store, name, copy.deepcopy(getattr(machine.store, name)))
    other = Machine(store)
    other.frames = copy.deepcopy(machine.frames)
    other.status, other.spent = machine.status, machine.spent
    return other

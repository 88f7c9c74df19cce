"""The numbers of a save."""

from wasmhost.binary.modules import encode
from wasmhost.indexes import SORTS
from wasmhost.items import items_of
from wasmhost.save.numerals import pack
from wasmhost.save.writing import write_entry, write_kind, write_list, write_numbers, write_pair, write_reason
from wasmhost.save.writing import write_signature, write_text, write_value, write_values

SAVE_HEAD = (87, 65, 83, 1)


def write_instance(instance):
    """Returns the numbers of an instance."""
    numbers = write_numbers(encode(instance.module))
    for sort in SORTS:
        numbers.extend(write_numbers(items_of(instance, sort)))
    return numbers


def write_function(row):
    """Returns the numbers of a function."""
    if row[0] == "host":
        return [1] + write_signature(row[2])
    return [0, row[1], row[2]]


def table_rows(store):
    """Returns the list of the greatest size of each table and the tuple of its entries."""
    return [(table.most, tuple(table.entries)) for table in store.tables]


def write_table(row):
    """Returns the numbers of a table."""
    most, entries = row
    return [most] + write_list(entries, write_entry)


def write_memory(memory):
    """Returns the numbers of a memory."""
    return [memory.pages, memory.most] + write_list(sorted(memory.cells.items()), write_pair)


def variable_rows(store):
    """Returns the list of the kind of each global, whether it is mutable, and its value."""
    return [(variable.kind, variable.mutable, variable.value) for variable in store.variables]


def write_variable(row):
    """Returns the numbers of a global."""
    kind, mutable, value = row
    return write_kind(kind) + [int(mutable)] + write_value(value)


def write_store(store):
    """Returns the numbers of a store."""
    return (
        write_list(store.instances, write_instance)
        + write_list(store.functions, write_function)
        + write_list(table_rows(store), write_table)
        + write_list(store.memories, write_memory)
        + write_list(variable_rows(store), write_variable)
        + write_list(store.tags, write_signature)
    )


def frame_row(frame):
    """Returns the function of a call, its place, the values of its locals, and its stack."""
    return frame.func, frame.place, tuple(frame.slots), tuple(frame.stack)


def write_frame(row):
    """Returns the numbers of a call."""
    func, place, slots, stack = row
    return [func, place] + write_values(slots) + write_values(stack)


def write_status(status):
    """Returns the numbers of a status."""
    name = status[0]
    if name == "running":
        return [0]
    if name == "finished":
        return [1] + write_values(status[1])
    if name == "trapped":
        return [2] + write_reason(status[1])
    if name == "thrown":
        return [3, status[1]] + write_values(status[2])
    return [4, status[1]] + write_values(status[2])


def write_machine(machine):
    """Returns the numbers of a machine."""
    return (
        write_store(machine.store)
        + write_list([frame_row(frame) for frame in machine.frames[::-1]], write_frame)
        + write_status(machine.status)
        + [machine.spent]
    )


def write_name(row):
    """Returns the numbers of a name."""
    module, name, kind, index = row
    return write_text(module) + write_text(name) + [SORTS.index(kind), index]


def write_save(machine, names, points, fast):
    """Returns the save of an engine. Its breakpoints and the functions that run fast are in ascending order."""
    numbers = write_machine(machine) + write_list(names, write_name) + write_list(points, write_pair)
    return pack(SAVE_HEAD, numbers + write_numbers(fast))


def machine_save(machine):
    """Returns the save of an engine that has nothing but this machine."""
    return write_save(machine, [], [], [])

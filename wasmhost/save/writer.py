"""The numbers of a save."""

from wasmhost.binary.modules import encode
from wasmhost.indexes import SORTS
from wasmhost.items import items_of
from wasmhost.save.numerals import mix, pack
from wasmhost.save.writing import write_entry, write_kind, write_list, write_numbers, write_pair, write_reason
from wasmhost.save.writing import write_signature, write_text, write_value, write_values

SAVE_HEAD = (87, 65, 83, 1)

DIGEST_MODULUS = 2305843009213693951


def write_instance(instance):
    """Returns the numbers of an instance."""
    numbers = write_numbers(encode(instance.module))
    for sort in SORTS:
        numbers.extend(write_numbers(items_of(instance, sort)))
    return numbers


def write_function(row):
    """Returns the numbers of a function."""
    if row[0] == "host":
        return [1] + write_signature(row[2])
    return [0, row[1], row[2]]


def write_table(table):
    """Returns the numbers of a table."""
    return [table.most] + write_list(table.entries, write_entry)


def write_memory(memory):
    """Returns the numbers of a memory."""
    return [memory.pages, memory.most] + write_list(sorted(memory.cells.items()), write_pair)


def write_variable(variable):
    """Returns the numbers of a global."""
    return write_kind(variable.kind) + [int(variable.mutable)] + write_value(variable.value)


def write_store(store):
    """Returns the numbers of a store."""
    return (
        write_list(store.instances, write_instance)
        + write_list(store.functions, write_function)
        + write_list(store.tables, write_table)
        + write_list(store.memories, write_memory)
        + write_list(store.variables, write_variable)
        + write_list(store.tags, write_signature)
    )


def write_frame(frame):
    """Returns the numbers of a call."""
    return [frame.func, frame.place] + write_values(frame.slots) + write_values(frame.stack)


def write_status(status):
    """Returns the numbers of a status."""
    name = status[0]
    if name == "running":
        return [0]
    if name == "finished":
        return [1] + write_values(status[1])
    if name == "trapped":
        return [2] + write_reason(status[1])
    if name == "thrown":
        return [3, status[1]] + write_values(status[2])
    return [4, status[1]] + write_values(status[2])


def write_machine(machine):
    """Returns the numbers of a machine."""
    return (
        write_store(machine.store)
        + write_list(machine.frames[::-1], write_frame)
        + write_status(machine.status)
        + [machine.spent]
    )


def write_name(row):
    """Returns the numbers of a name."""
    module, name, kind, index = row
    return write_text(module) + write_text(name) + [SORTS.index(kind), index]


def write_save(machine, names, points, fast):
    """Returns the save of an engine. Its breakpoints and the functions that run fast are in ascending order."""
    numbers = write_machine(machine) + write_list(names, write_name) + write_list(points, write_pair)
    return pack(SAVE_HEAD, numbers + write_numbers(fast))


def machine_save(machine):
    """Returns the save of an engine that has nothing but this machine."""
    return write_save(machine, [], [], [])


def digest_of(machine):
    """Returns the digest of a machine."""
    return mix(machine_save(machine), DIGEST_MODULUS)

"""Access to memories, globals and tables from outside."""

from wasmhost.errors import BadValues, Immutable, NoSuchItem, OutOfRange
from wasmhost.items import item_at
from wasmhost.store import value_fits

# Places from 0 on at which a piece of a memory may begin or end, whatever size the memory has.
MOST_PLACE = 1048576

# Bytes that are read or written at once.
MOST_PIECE = 1000


def check_place(at):
    """Checks the place at which a piece of a memory begins."""
    if not 0 <= at <= MOST_PLACE:
        raise OutOfRange("at")


def check_count(count):
    """Checks the number of bytes of a piece of a memory."""
    if not 0 <= count <= MOST_PIECE:
        raise OutOfRange("count")


def check_end(memory, end):
    """Checks the place behind a piece of a memory."""
    if end > memory.size():
        raise OutOfRange("end")


def read_memory(store, memory, at, count):
    """Returns the list of so many bytes of a memory from a place on."""
    found = item_at(store, "memory", memory)
    check_place(at)
    check_count(count)
    check_end(found, at + count)
    return found.read(at, count)


def write_memory(store, memory, at, data):
    """Replaces the bytes of a memory from a place on."""
    found = item_at(store, "memory", memory)
    check_place(at)
    check_count(len(data))
    for byte in data:
        if not 0 <= byte <= 255:
            raise OutOfRange("byte")
    check_end(found, at + len(data))
    found.write(at, list(data))


def read_variable(store, index):
    """Returns the value of a global."""
    return item_at(store, "global", index).value


def write_variable(store, index, value):
    """Changes the value of a global."""
    variable = item_at(store, "global", index)
    if not variable.mutable:
        raise Immutable(index)
    if not value_fits(variable.kind, value):
        raise BadValues()
    variable.value = value


def read_table(store, table):
    """Returns a list of the entries of a table, which is a copy."""
    return list(item_at(store, "table", table).entries)


def write_table(store, table, at, func):
    """Changes an entry of a table to a function or to None."""
    entries = item_at(store, "table", table).entries
    if not 0 <= at < len(entries):
        raise NoSuchItem("entry", at)
    if func is not None:
        item_at(store, "func", func)
    entries[at] = func

"""The items of the sections of a file, read from bytes."""

from wasmhost.errors import DecodeError
from wasmhost.indexes import SORTS
from wasmhost.instructions import CONSTANTS
from wasmhost.limits import MOST_LOCALS
from wasmhost.binary.numerals import byte_at
from wasmhost.binary.opcodes import END, instruction_name
from wasmhost.binary.pieces import read_choice, read_items, read_kind, read_list, read_mark, read_number, read_part
from wasmhost.binary.reader import read_code, read_name, read_operands
from wasmhost.binary.sections import CONTENTS, CUSTOM, DATA_COUNT, FUNCTIONS, MEMORY_SEGMENTS
from wasmhost.binary.sections import SIGNATURE_MARK, START, TABLE_MARK, TAG_MARK


def read_signature(data, place, end):
    """Returns a signature and the place after it."""
    place = read_mark(data, place, end, SIGNATURE_MARK, "invalid signature")
    params, place = read_list(data, place, end, read_kind)
    results, place = read_list(data, place, end, read_kind)
    return (params, results), place


def read_limits(data, place, end):
    """Returns a limit and the place after it."""
    has_most, place = read_choice(data, place, end, (False, True), "invalid limits")
    least, place = read_number(data, place, end)
    most = None
    if has_most:
        most, place = read_number(data, place, end)
    return (least, most), place


def read_table(data, place, end):
    """Returns the limit of a table and the place after it."""
    place = read_mark(data, place, end, TABLE_MARK, "invalid table kind")
    return read_limits(data, place, end)


def read_tag(data, place, end):
    """Returns the index of the signature of a tag, and the place after it."""
    place = read_mark(data, place, end, TAG_MARK, "invalid tag kind")
    return read_number(data, place, end)


def read_head_of_global(data, place, end):
    """Returns the kind of a global and whether it is mutable, and the place after both."""
    kind, place = read_kind(data, place, end)
    mutable, place = read_choice(data, place, end, (False, True), "invalid flag")
    return (kind, mutable), place


def read_constant(data, place, end):
    """Returns a constant and the place after its end."""
    name = instruction_name(byte_at(data, place, end))
    if name not in CONSTANTS:
        raise DecodeError("invalid constant", place)
    operands, place = read_operands(name, data, place + 1, end)
    place = read_mark(data, place, end, END, "missing constant end")
    return (name,) + operands, place


def read_global(data, place, end):
    """Returns a global and the place after it."""
    head, place = read_head_of_global(data, place, end)
    constant, place = read_constant(data, place, end)
    return head + (constant,), place


def read_what(sort, data, place, end):
    """Returns what an import of this sort asks for, and the place after it."""
    if sort == "func":
        return read_number(data, place, end)
    if sort == "table":
        return read_table(data, place, end)
    if sort == "memory":
        return read_limits(data, place, end)
    if sort == "global":
        return read_head_of_global(data, place, end)
    return read_tag(data, place, end)


def read_import(data, place, end):
    """Returns an import and the place after it."""
    module, place = read_name(data, place, end)
    name, place = read_name(data, place, end)
    sort, place = read_choice(data, place, end, SORTS, "invalid import kind")
    what, place = read_what(sort, data, place, end)
    return (module, name, sort, what), place


def read_export(data, place, end):
    """Returns an export and the place after it."""
    name, place = read_name(data, place, end)
    sort, place = read_choice(data, place, end, SORTS, "invalid export kind")
    index, place = read_number(data, place, end)
    return (name, sort, index), place


def read_segment_head(data, place, end):
    """Returns whether a segment names its table or memory, the index of it, its constant, and the place after it."""
    sort, place = read_number(data, place, end)
    if sort not in (0, 2):
        raise DecodeError("unsupported segment", place)
    index = 0
    if sort == 2:
        index, place = read_number(data, place, end)
    constant, place = read_constant(data, place, end)
    return sort == 2, index, constant, place


def read_table_segment(data, place, end):
    """Returns a table segment and the place after it."""
    named, table, constant, place = read_segment_head(data, place, end)
    if named:
        place = read_mark(data, place, end, 0, "invalid segment kind")
    functions, place = read_list(data, place, end, read_number)
    return (table, constant, functions), place


def read_byte(data, place, end):
    """Returns a byte and the place after it."""
    return byte_at(data, place, end), place + 1


def read_memory_segment(data, place, end):
    """Returns a memory segment and the place after it."""
    _, memory, constant, place = read_segment_head(data, place, end)
    content, place = read_list(data, place, end, read_byte)
    return (memory, constant, content), place


def read_local_group(data, place, end):
    """Returns a number of locals and their kind, and the place after both."""
    count, place = read_number(data, place, end)
    kind, place = read_kind(data, place, end)
    return (count, kind), place


def read_locals(data, place, end):
    """Returns the tuple of the kinds of the locals of a function, and the place after their list."""
    groups, place = read_list(data, place, end, read_local_group)
    # A group may stand for billions of locals, so they are counted before they are written out.
    if sum([count for count, _ in groups]) > MOST_LOCALS:
        raise DecodeError("too many locals", place)
    kinds = []
    for count, kind in groups:
        kinds.extend([kind] * count)
    return tuple(kinds), place


def read_locals_and_code(data, place, end):
    """Returns the locals and the body of a function, and the place after them."""
    kinds, place = read_locals(data, place, end)
    body, place = read_code(data, place, end)
    return (kinds, body), place


def read_content(data, place, end):
    """Returns the content of a function and the place after it."""
    return read_part(data, place, end, read_locals_and_code)


def read_function(data, place, end):
    """Returns the index of the signature of a function, and the place after it."""
    return read_number(data, place, end)


ITEM_READERS = {
    1: read_signature,
    2: read_import,
    3: read_function,
    4: read_table,
    5: read_limits,
    13: read_tag,
    6: read_global,
    7: read_export,
    9: read_table_segment,
    10: read_content,
    11: read_memory_segment,
}


def check_count(code, count, parts, place):
    """Checks the number of items of a section against the sections read before it."""
    if code == CONTENTS and count != len(parts.get(FUNCTIONS, ())):
        raise DecodeError("function count mismatch", place)
    if code == MEMORY_SEGMENTS and count != parts.get(DATA_COUNT, count):
        raise DecodeError("data count mismatch", place)


def read_section(code, parts, data, place, end):
    """Returns what the section with this code contains, and the place after it.

    The parts are a dict from the codes of the sections before it to their contents.
    """
    if code == CUSTOM:
        _, place = read_name(data, place, end)
        return None, end
    count, place = read_number(data, place, end)
    if code in (START, DATA_COUNT):
        return count, place
    check_count(code, count, parts, place)
    reader = ITEM_READERS[code]
    return read_items(data, place, end, count, reader)

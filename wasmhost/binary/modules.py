"""Modules as files."""

from wasmhost.errors import DecodeError, LimitReached
from wasmhost.modules import Module
from wasmhost.binary.pieces import read_mark, read_part
from wasmhost.binary.section_reader import read_section
from wasmhost.binary.section_writer import write_content, write_export, write_function, write_global, write_import
from wasmhost.binary.section_writer import write_limits, write_memory_segment, write_section, write_signature
from wasmhost.binary.section_writer import write_start, write_table, write_table_segment, write_tag
from wasmhost.binary.sections import CONTENTS, CUSTOM, DATA_COUNT, FUNCTIONS, HEAD, MEMORY_SEGMENTS, MOST_BYTES
from wasmhost.binary.sections import ORDER, START


def encode(module):
    """Returns the file of a module, a list of bytes."""
    data = list(HEAD)
    data.extend(write_section(1, module.signatures, write_signature))
    data.extend(write_section(2, module.imports, write_import))
    data.extend(write_section(3, module.functions, write_function))
    data.extend(write_section(4, module.tables, write_table))
    data.extend(write_section(5, module.memories, write_limits))
    data.extend(write_section(13, module.tags, write_tag))
    data.extend(write_section(6, module.variables, write_global))
    data.extend(write_section(7, module.exports, write_export))
    data.extend(write_start(module.start))
    data.extend(write_section(9, module.table_segments, write_table_segment))
    data.extend(write_section(10, module.functions, write_content))
    data.extend(write_section(11, module.memory_segments, write_memory_segment))
    if len(data) > MOST_BYTES:
        raise LimitReached("file")
    return data


def read_head(data):
    """Returns the place after the head of a file."""
    place = 0
    for mark in HEAD:
        place = read_mark(data, place, len(data), mark, "not a module")
    return place


def check_order(code, last, place):
    """Checks that a section may stand behind the one with the code `last`, which is None at the beginning."""
    if code not in ORDER:
        raise DecodeError("unknown section", place)
    if last is not None and ORDER.index(code) <= ORDER.index(last):
        raise DecodeError("section out of order", place)


def read_sized_section(code, parts, data, place):
    """Returns what the section with this code contains, and the place after it. The place is that of its size."""
    return read_part(data, place, len(data), lambda row, at, end: read_section(code, parts, row, at, end))


def read_sections(data, place):
    """Returns a dict from the codes of the sections to their contents."""
    parts = {}
    last = None
    while place < len(data):
        code = data[place]
        if code != CUSTOM:
            check_order(code, last, place)
            last = code
        content, place = read_sized_section(code, parts, data, place + 1)
        parts[code] = content
    return parts


def check_missing(parts, end):
    """Checks the counts that a missing section does not agree with."""
    if CONTENTS not in parts and len(parts.get(FUNCTIONS, ())) > 0:
        raise DecodeError("function count mismatch", end)
    if MEMORY_SEGMENTS not in parts and parts.get(DATA_COUNT, 0) != 0:
        raise DecodeError("data count mismatch", end)


def functions_of(parts):
    """Returns the tuple of the functions, which two sections write together."""
    rows = []
    for index, (kinds, body) in zip(parts.get(FUNCTIONS, ()), parts.get(CONTENTS, ())):
        rows.append((index, kinds, body))
    return tuple(rows)


def decode(data):
    """Returns the module of a file."""
    if len(data) > MOST_BYTES:
        raise LimitReached("file")
    parts = read_sections(data, read_head(data))
    check_missing(parts, len(data))
    return Module(
        signatures=parts.get(1, ()),
        imports=parts.get(2, ()),
        functions=functions_of(parts),
        tables=parts.get(4, ()),
        memories=parts.get(5, ()),
        tags=parts.get(13, ()),
        variables=parts.get(6, ()),
        exports=parts.get(7, ()),
        start=parts.get(START),
        table_segments=parts.get(9, ()),
        memory_segments=parts.get(11, ()),
    )

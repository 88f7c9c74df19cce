"""The sections of a file, written as bytes."""

from wasmhost.indexes import SORTS
from wasmhost.binary.numerals import write_unsigned
from wasmhost.binary.sections import SIGNATURE_MARK, START, TABLE_MARK, TAG_MARK
from wasmhost.binary.writer import write_code, write_kind, write_list, write_name


def write_part(content):
    """Returns the bytes of a part with a size."""
    return write_unsigned(len(content)) + content


def write_signature(signature):
    """Returns the bytes of a signature."""
    params, results = signature
    return [SIGNATURE_MARK] + write_list(params, write_kind) + write_list(results, write_kind)


def write_limits(limit):
    """Returns the bytes of limits."""
    least, most = limit
    if most is None:
        return [0] + write_unsigned(least)
    return [1] + write_unsigned(least) + write_unsigned(most)


def write_table(limit):
    """Returns the bytes of a table."""
    return [TABLE_MARK] + write_limits(limit)


def write_tag(signature):
    """Returns the bytes of a tag."""
    return [TAG_MARK] + write_unsigned(signature)


def write_head_of_global(kind, mutable):
    """Returns the bytes of a kind and a flag."""
    return write_kind(kind) + [int(mutable)]


def write_constant(constant):
    """Returns the bytes of a constant, which is written as code."""
    return write_code((constant,))


def write_global(variable):
    """Returns the bytes of a global."""
    kind, mutable, constant = variable
    return write_head_of_global(kind, mutable) + write_constant(constant)


def write_what(sort, what):
    """Returns the bytes of what an import of this sort asks for."""
    if sort == "func":
        return write_unsigned(what)
    if sort == "table":
        return write_table(what)
    if sort == "memory":
        return write_limits(what)
    if sort == "global":
        kind, mutable = what
        return write_head_of_global(kind, mutable)
    return write_tag(what)


def write_import(row):
    """Returns the bytes of an import."""
    module, name, sort, what = row
    return write_name(module) + write_name(name) + [SORTS.index(sort)] + write_what(sort, what)


def write_export(row):
    """Returns the bytes of an export."""
    name, sort, index = row
    return write_name(name) + [SORTS.index(sort)] + write_unsigned(index)


def write_function(function):
    """Returns the bytes of the index of a function's signature."""
    return write_unsigned(function[0])


def local_groups(kinds):
    """Returns the list of pairs of a number and a kind for the neighbouring locals of the same kind."""
    groups = []
    for kind in kinds:
        if len(groups) > 0 and groups[-1][1] == kind:
            groups[-1] = (groups[-1][0] + 1, kind)
        else:
            groups.append((1, kind))
    return groups


def write_local_group(group):
    """Returns the bytes of a number of locals and their kind."""
    count, kind = group
    return write_unsigned(count) + write_kind(kind)


def write_content(function):
    """Returns the bytes of the content of a function."""
    _, kinds, body = function
    return write_part(write_list(local_groups(kinds), write_local_group) + write_code(body))


def write_table_segment(segment):
    """Returns the bytes of a table segment."""
    table, constant, functions = segment
    data = write_constant(constant)
    if table == 0:
        return [0] + data + write_list(functions, write_unsigned)
    return [2] + write_unsigned(table) + data + [0] + write_list(functions, write_unsigned)


def write_memory_segment(segment):
    """Returns the bytes of a memory segment."""
    memory, constant, content = segment
    data = write_constant(constant) + write_unsigned(len(content)) + list(content)
    if memory == 0:
        return [0] + data
    return [2] + write_unsigned(memory) + data


def write_section(code, items, write_item):
    """Returns the bytes of the section with these items, or no bytes if there are none."""
    if len(items) == 0:
        return []
    return [code] + write_part(write_list(items, write_item))


def write_start(start):
    """Returns the bytes of the section with the start function, or no bytes if there is none."""
    if start is None:
        return []
    return [START] + write_part(write_unsigned(start))

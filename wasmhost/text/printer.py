"""Modules, written as texts."""

from wasmhost.characters import character_of
from wasmhost.errors import LimitReached
from wasmhost.limits import MOST_TEXT
from wasmhost.text.code_printer import group, print_body, print_numbers, print_use

QUOTE = 34
BACKSLASH = 92

HEXADECIMAL = "0123456789abcdef"


def print_byte(byte):
    """Returns what stands for a byte in a string."""
    character = character_of(byte)
    if character is None or byte in (QUOTE, BACKSLASH):
        return "\\" + HEXADECIMAL[byte // 16] + HEXADECIMAL[byte % 16]
    return character


def print_string(data):
    """Returns the string that writes a tuple or list of bytes."""
    return "\"" + "".join([print_byte(byte) for byte in data]) + "\""


def print_name(name):
    """Returns the string that writes a name."""
    return print_string([ord(character) for character in name])


def print_kinds(word, kinds):
    """Returns the list of the group of these kinds, which is empty if there are none."""
    if len(kinds) == 0:
        return []
    return [group([word] + list(kinds))]


def print_signature(signature):
    """Returns the field of a signature."""
    params, results = signature
    return group(["type", group(["func"] + print_kinds("param", params) + print_kinds("result", results))])


def print_limits(word, limit):
    """Returns the list of the word and the words for a limit."""
    least, most = limit
    if most is None:
        return [word, str(least)]
    return [word, str(least), str(most)]


def print_table(limit):
    """Returns a table."""
    return group(print_limits("table", limit) + ["funcref"])


def print_memory(limit):
    """Returns a memory."""
    return group(print_limits("memory", limit))


def print_tag(index):
    """Returns a tag."""
    return group(["tag", print_use(index)])


def print_head_of_global(kind, mutable):
    """Returns the kind of a global."""
    if mutable:
        return group(["mut", kind])
    return kind


def print_what(sort, what):
    """Returns what an import of this sort asks for."""
    if sort == "func":
        return group(["func", print_use(what)])
    if sort == "table":
        return print_table(what)
    if sort == "memory":
        return print_memory(what)
    if sort == "tag":
        return print_tag(what)
    kind, mutable = what
    return group(["global", print_head_of_global(kind, mutable)])


def print_import(row):
    """Returns the field of an import."""
    module, name, sort, what = row
    return group(["import", print_name(module), print_name(name), print_what(sort, what)])


def print_function(function):
    """Returns the field of a function."""
    index, kinds, body = function
    head = group(["func", print_use(index)] + print_kinds("local", kinds))
    lines = [head[:-1]] + print_body(body, "    ")
    return "\n".join(lines) + ")"


def print_constant(constant):
    """Returns a constant."""
    name, operand = constant
    return group([name, str(operand)])


def print_global(variable):
    """Returns the field of a global."""
    kind, mutable, constant = variable
    return group(["global", print_head_of_global(kind, mutable), print_constant(constant)])


def print_export(row):
    """Returns the field of an export."""
    name, sort, index = row
    return group(["export", print_name(name), group([sort, str(index)])])


def print_start(func):
    """Returns the field of the start function."""
    return group(["start", str(func)])


def print_target(sort, index):
    """Returns the list of the group for the table or memory of a segment, which is empty for the first one."""
    if index == 0:
        return []
    return [group([sort, str(index)])]


def print_table_segment(segment):
    """Returns the field of a table segment."""
    table, constant, functions = segment
    words = ["elem"] + print_target("table", table) + [print_constant(constant), "func"]
    return group(words + print_numbers(functions))


def print_memory_segment(segment):
    """Returns the field of a memory segment."""
    memory, constant, data = segment
    return group(["data"] + print_target("memory", memory) + [print_constant(constant), print_string(data)])


def print_fields(module):
    """Returns the list of the fields of a module."""
    fields = [print_signature(signature) for signature in module.signatures]
    fields.extend([print_import(row) for row in module.imports])
    fields.extend([print_function(function) for function in module.functions])
    fields.extend([print_table(limit) for limit in module.tables])
    fields.extend([print_memory(limit) for limit in module.memories])
    fields.extend([print_tag(index) for index in module.tags])
    fields.extend([print_global(variable) for variable in module.variables])
    fields.extend([print_export(row) for row in module.exports])
    if module.start is not None:
        fields.append(print_start(module.start))
    fields.extend([print_table_segment(segment) for segment in module.table_segments])
    fields.extend([print_memory_segment(segment) for segment in module.memory_segments])
    return fields


def print_module(module):
    """Returns the text of a module."""
    text = "\n  ".join(["(module"] + print_fields(module)) + ")"
    if len(text) > MOST_TEXT:
        raise LimitReached("text")
    return text

"""Code and names, written as bytes."""

from wasmhost.instructions import BLOCKS, CONSTANT_BITS, bodies_of
from wasmhost.binary.numerals import write_signed, write_unsigned
from wasmhost.binary.opcodes import ELSE, END, MEMORY_ZEROS, opcode


def write_name(name):
    """Returns the list of bytes of a name."""
    return write_unsigned(len(name)) + [ord(character) for character in name]


def write_list(items, write_item):
    """Returns the bytes of a list whose items are written by the given function."""
    data = write_unsigned(len(items))
    for item in items:
        data.extend(write_item(item))
    return data


def write_kind(kind):
    """Returns the byte of a kind, in a list."""
    if kind == "i32":
        return [127]
    return [126]


def write_shape(shape):
    """Returns the bytes of the shape of a block."""
    if shape is None:
        return [64]
    if shape in ("i32", "i64"):
        return write_kind(shape)
    return write_signed(shape)


def write_catch(row):
    """Returns the bytes of a catch."""
    tag, label = row
    if tag is None:
        return [2] + write_unsigned(label)
    return [0] + write_unsigned(tag) + write_unsigned(label)


def write_rows(body):
    """Returns the bytes of the instructions of a body, without an end."""
    data = []
    for instruction in body:
        data.extend(write_instruction(instruction))
    return data


def write_code(body):
    """Returns the list of bytes of the body's code with its end."""
    return write_rows(body) + [END]


def write_block(instruction):
    """Returns what stands behind the opcode of an instruction with code."""
    data = write_shape(instruction[1])
    if instruction[0] == "try_table":
        data.extend(write_list(instruction[2], write_catch))
    bodies = bodies_of(instruction)
    data.extend(write_rows(bodies[0]))
    if len(bodies) > 1 and len(bodies[1]) > 0:
        data.append(ELSE)
        data.extend(write_rows(bodies[1]))
    data.append(END)
    return data


def write_operands(instruction):
    """Returns what stands behind the opcode of an instruction without code."""
    name = instruction[0]
    if name in CONSTANT_BITS:
        return write_signed(instruction[1])
    if name == "br_table":
        return write_list(instruction[1], write_unsigned) + write_unsigned(instruction[2])
    if name in MEMORY_ZEROS:
        return [0] * MEMORY_ZEROS[name]
    data = []
    for number in instruction[1:]:
        data.extend(write_unsigned(number))
    return data


def write_instruction(instruction):
    """Returns the bytes of an instruction."""
    data = opcode(instruction[0])
    if instruction[0] in BLOCKS:
        return data + write_block(instruction)
    return data + write_operands(instruction)

"""Code and names, read from bytes."""

from wasmhost.characters import character_of
from wasmhost.errors import DecodeError
from wasmhost.instructions import ACCESS_BITS, BLOCKS, CONSTANT_BITS
from wasmhost.limits import MOST_CHARACTERS, MOST_OPEN
from wasmhost.binary.numerals import byte_at, read_signed
from wasmhost.binary.opcodes import ELSE, END, MEMORY_ZEROS, PREFIX, instruction_name, prefixed_name
from wasmhost.binary.pieces import read_items, read_kind, read_list, read_mark, read_number

NUMBERS_BEHIND = {
    "throw": 1,
    "br": 1,
    "br_if": 1,
    "call": 1,
    "call_indirect": 2,
    "local.get": 1,
    "local.set": 1,
    "local.tee": 1,
    "global.get": 1,
    "global.set": 1,
}


def read_character(data, place, end):
    """Returns a character of a name and the place after it."""
    character = character_of(byte_at(data, place, end))
    if character is None:
        raise DecodeError("invalid name character", place)
    return character, place + 1


def read_name(data, place, end):
    """Returns the name that begins at the place, and the place after it."""
    count, place = read_number(data, place, end)
    if count > MOST_CHARACTERS:
        raise DecodeError("name too long", place)
    characters, place = read_items(data, place, end, count, read_character)
    return "".join(characters), place


def read_shape(data, place, end):
    """Returns the shape of a block and the place after it."""
    byte = byte_at(data, place, end)
    if byte == 64:
        return None, place + 1
    if byte in (126, 127):
        return read_kind(data, place, end)
    shape, after = read_signed(data, place, end, 33)
    if shape < 0:
        raise DecodeError("invalid shape", after - 1)
    return shape, after


def read_catch(data, place, end):
    """Returns a catch and the place after it."""
    byte = byte_at(data, place, end)
    if byte not in (0, 2):
        raise DecodeError("invalid catch", place)
    tag = None
    place = place + 1
    if byte == 0:
        tag, place = read_number(data, place, end)
    label, place = read_number(data, place, end)
    return (tag, label), place


def read_opcode(data, place, end):
    """Returns the name of an instruction and the place after its opcode."""
    name = instruction_name(byte_at(data, place, end))
    if data[place] == PREFIX:
        place = place + 1
        name = prefixed_name(byte_at(data, place, end))
    if name is None:
        raise DecodeError("unknown instruction", place)
    return name, place + 1


def read_access(data, place, end):
    """Returns the exponent and the offset of a load or store, and the place after them."""
    exponent, place = read_number(data, place, end)
    if exponent > 31:
        raise DecodeError("alignment too great", place)
    offset, place = read_number(data, place, end)
    return (exponent, offset), place


def read_operands(name, data, place, end):
    """Returns what belongs to an instruction without code behind its name, and the place after it."""
    if name in NUMBERS_BEHIND:
        return read_items(data, place, end, NUMBERS_BEHIND[name], read_number)
    if name in CONSTANT_BITS:
        number, place = read_signed(data, place, end, CONSTANT_BITS[name])
        return (number,), place
    if name in ACCESS_BITS:
        return read_access(data, place, end)
    if name == "br_table":
        labels, place = read_list(data, place, end, read_number)
        default, place = read_number(data, place, end)
        return (labels, default), place
    for _ in range(MEMORY_ZEROS.get(name, 0)):
        place = read_mark(data, place, end, 0, "invalid memory number")
    return (), place


def read_rows(data, place, end, depth):
    """Returns the instructions up to the end of their code, or up to an else, and the place of this byte.

    The depth is the number of instructions that are open around the code.
    """
    rows = []
    while byte_at(data, place, end) not in (ELSE, END):
        row, place = read_instruction(data, place, end, depth)
        rows.append(row)
    return tuple(rows), place


def check_end(data, place):
    """Checks that code ends here, and not with an else."""
    if data[place] != END:
        raise DecodeError("unknown instruction", place)


def read_block(name, data, place, end, depth):
    """Returns an instruction with code, and the place after it. The place is the one behind its opcode."""
    shape, place = read_shape(data, place, end)
    head = (name, shape)
    if name == "try_table":
        catches, place = read_list(data, place, end, read_catch)
        head = (name, shape, catches)
    first, place = read_rows(data, place, end, depth)
    bodies = (first,)
    if name == "if":
        second = ()
        if data[place] == ELSE:
            second, place = read_rows(data, place + 1, end, depth)
        bodies = (first, second)
    check_end(data, place)
    return head + bodies, place + 1


def read_instruction(data, place, end, depth):
    """Returns an instruction and the place after it."""
    name, after = read_opcode(data, place, end)
    if name in BLOCKS:
        if depth >= MOST_OPEN:
            raise DecodeError("nesting too deep", place)
        return read_block(name, data, after, end, depth + 1)
    operands, after = read_operands(name, data, after, end)
    return (name,) + operands, after


def read_code(data, place, end):
    """Returns the body that begins at the place, and the place after its end."""
    body, place = read_rows(data, place, end, 0)
    check_end(data, place)
    return body, place + 1

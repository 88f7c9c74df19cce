"""The instructions that use a memory."""

from wasmhost.errors import Trap
from wasmhost.instructions import ACCESS_BITS
from wasmhost.machine.scope import memory_of
from wasmhost.reasons import OUT_OF_BOUNDS
from wasmhost.words import bytes_word, extend, signed, unsigned, word_bytes

# Bytes that one step fills or copies.
MOST_MOVED = 64


def check_piece(memory, at, count):
    """Checks that so many bytes from a place on lie in the memory."""
    if at + count > memory.size():
        raise Trap(OUT_OF_BOUNDS)


def accessed(memory, name, offset, address):
    """Returns the place and the number of the bytes that a load or store uses."""
    at = unsigned("i32", address) + offset
    count = ACCESS_BITS[name] // 8
    check_piece(memory, at, count)
    return at, count


def loaded(memory, name, offset, address):
    """Returns the value that a load finds."""
    at, count = accessed(memory, name, offset, address)
    number = bytes_word(memory.read(at, count))
    if name.endswith("_u"):
        return number
    return extend(number, 8 * count)


def store_value(memory, name, offset, address, value):
    """Writes what a store writes."""
    at, count = accessed(memory, name, offset, address)
    memory.write(at, word_bytes(value, count))


def load(machine, frame, instruction):
    """A load."""
    name, _, offset = instruction
    frame.stack[-1] = loaded(memory_of(machine, frame), name, offset, frame.stack[-1])


def store(machine, frame, instruction):
    """A store."""
    name, _, offset = instruction
    address, value = frame.stack[-2:]
    store_value(memory_of(machine, frame), name, offset, address, value)
    del frame.stack[-2:]


def size(machine, frame, instruction):
    """memory.size"""
    frame.stack.append(memory_of(machine, frame).pages)


def grow(machine, frame, instruction):
    """memory.grow"""
    memory = memory_of(machine, frame)
    former = memory.pages
    pages = former + unsigned("i32", frame.stack[-1])
    if pages > memory.most:
        former = -1
    else:
        memory.pages = pages
    frame.stack[-1] = former


PAGE_ACTIONS = {"memory.size": size, "memory.grow": grow}


def put_rest(frame, operands):
    """Replaces the three operands of an instruction that is not finished."""
    frame.stack[-3:] = [signed("i32", operand) for operand in operands]


def finish(frame):
    """Takes the three operands of an instruction that is finished."""
    del frame.stack[-3:]
    frame.place = frame.place + 1


def fill(machine, frame, row):
    """A step of memory.fill."""
    memory = memory_of(machine, frame)
    address, value, count = [unsigned("i32", operand) for operand in frame.stack[-3:]]
    check_piece(memory, address, count)
    memory.write(address, [value & 255] * min(count, MOST_MOVED))
    if count <= MOST_MOVED:
        finish(frame)
    else:
        put_rest(frame, (address + MOST_MOVED, value, count - MOST_MOVED))


def copy_from_front(memory, target, origin, count):
    """Copies the first bytes. Returns the operands for the rest."""
    memory.write(target, memory.read(origin, MOST_MOVED))
    return target + MOST_MOVED, origin + MOST_MOVED, count - MOST_MOVED


def copy_from_back(memory, target, origin, count):
    """Copies the last bytes. Returns the operands for the rest."""
    rest = count - MOST_MOVED
    memory.write(target + rest, memory.read(origin + rest, MOST_MOVED))
    return target, origin, rest


def copy(machine, frame, row):
    """A step of memory.copy."""
    memory = memory_of(machine, frame)
    target, origin, count = [unsigned("i32", operand) for operand in frame.stack[-3:]]
    check_piece(memory, target, count)
    check_piece(memory, origin, count)
    if count <= MOST_MOVED:
        memory.write(target, memory.read(origin, count))
        finish(frame)
    elif target <= origin:
        put_rest(frame, copy_from_front(memory, target, origin, count))
    else:
        put_rest(frame, copy_from_back(memory, target, origin, count))


# What may take several steps.
LONG_ACTIONS = {"memory.fill": fill, "memory.copy": copy}

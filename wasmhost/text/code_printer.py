"""Code, written as lines of a text."""

from wasmhost.instructions import ACCESS_BITS, BLOCKS, bodies_of


def group(words):
    """Returns the words in parentheses."""
    return "(" + " ".join(words) + ")"


def print_numbers(numbers):
    """Returns the list of the words for numbers."""
    return [str(number) for number in numbers]


def print_use(index):
    """Returns the use of a signature."""
    return group(["type", str(index)])


def print_shape(shape):
    """Returns the list of the words for a shape."""
    if shape is None:
        return []
    if shape in ("i32", "i64"):
        return [group(["result", shape])]
    return [print_use(shape)]


def print_catch(row):
    """Returns a catch."""
    tag, label = row
    if tag is None:
        return group(["catch_all", str(label)])
    return group(["catch", str(tag), str(label)])


def print_access(instruction):
    """Returns the list of the words behind the name of a load or store."""
    name, exponent, offset = instruction
    words = []
    if offset != 0:
        words.append("offset=" + str(offset))
    if 8 << exponent != ACCESS_BITS[name]:
        words.append("align=" + str(1 << exponent))
    return words


def print_operands(instruction):
    """Returns the list of the words behind the name of an instruction without code."""
    name = instruction[0]
    if name in ACCESS_BITS:
        return print_access(instruction)
    if name == "br_table":
        return print_numbers(instruction[1] + instruction[2:])
    if name == "call_indirect":
        return [str(instruction[2]), print_use(instruction[1])]
    return print_numbers(instruction[1:])


def print_block(instruction, margin):
    """Returns the list of the lines of an instruction with code."""
    words = [instruction[0]] + print_shape(instruction[1])
    if instruction[0] == "try_table":
        words.extend([print_catch(row) for row in instruction[2]])
    bodies = bodies_of(instruction)
    lines = [margin + " ".join(words)]
    lines.extend(print_body(bodies[0], margin + "  "))
    if len(bodies) > 1 and len(bodies[1]) > 0:
        lines.append(margin + "else")
        lines.extend(print_body(bodies[1], margin + "  "))
    lines.append(margin + "end")
    return lines


def print_instruction(instruction, margin):
    """Returns the list of the lines of an instruction."""
    if instruction[0] in BLOCKS:
        return print_block(instruction, margin)
    words = [instruction[0]] + print_operands(instruction)
    return [margin + " ".join(words)]


def print_body(body, margin):
    """Returns the list of the lines of a body, which begin with the margin."""
    lines = []
    for instruction in body:
        lines.extend(print_instruction(instruction, margin))
    return lines

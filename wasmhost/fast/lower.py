"""The blocks of a function: its code as lines over registers."""

from wasmhost.check.code import own_function, stacks
from wasmhost.fast.lines import ways_of
from wasmhost.flat import flatten
from wasmhost.instructions import ACCESS_BITS
from wasmhost.numbers import INSTRUCTIONS, signature_of


def skip_line(instruction, free):
    """The line of nop and drop."""
    return ("skip",)


def const_line(instruction, free):
    """The line of a constant."""
    return "const", free, instruction[1]


def local_get_line(instruction, free):
    """The line of local.get."""
    return "copy", free, instruction[1]


def local_set_line(instruction, free):
    """The line of local.set and local.tee."""
    return "copy", instruction[1], free - 1


def global_get_line(instruction, free):
    """The line of global.get."""
    return "get", free, instruction[1]


def global_set_line(instruction, free):
    """The line of global.set."""
    return "set", instruction[1], free - 1


def choose_line(instruction, free):
    """The line of select."""
    return "choose", free - 3, free - 1, free - 3, free - 2


def pages_line(instruction, free):
    """The line of memory.size."""
    return "pages", free


def compute_line(instruction, free):
    """The line of a numeric instruction."""
    name = instruction[0]
    params, _ = signature_of(name)
    operands = tuple(range(free - len(params), free))
    return "compute", name, operands[0], operands


def access_line(instruction, free):
    """The line of a load or store."""
    name, _, offset = instruction
    if name[4:].startswith("load"):
        return "load", name, offset, free - 1, free - 1
    return "store", name, offset, free - 2, free - 1


LINES = {
    "nop": skip_line,
    "drop": skip_line,
    "i32.const": const_line,
    "i64.const": const_line,
    "local.get": local_get_line,
    "local.set": local_set_line,
    "local.tee": local_set_line,
    "global.get": global_get_line,
    "global.set": global_set_line,
    "select": choose_line,
    "memory.size": pages_line,
}


def line_of(instruction, free):
    """Returns the line of a simple row, or None for another row. `free` is the first register above the stack."""
    name = instruction[0]
    if name in LINES:
        make = LINES[name]
        return make(instruction, free)
    if name in INSTRUCTIONS:
        return compute_line(instruction, free)
    if name in ACCESS_BITS:
        return access_line(instruction, free)
    return None


def count_slots(module, func):
    """Returns the number of local variables of a function."""
    index, own_kinds, _ = own_function(module, func)
    params, _ = module.signatures[index]
    return len(params) + len(own_kinds)


class Lowerer:
    """The rows of a function, their stacks, and the number of its local variables."""

    def __init__(self, module, func):
        self.rows = flatten(module, func)
        self.seen = stacks(module, func)
        self.slots = count_slots(module, func)

    def is_live(self, place):
        """Returns True if there is such a place and it is not dead, otherwise False."""
        return place < len(self.rows) and not self.seen[place][1]

    def height(self, place):
        """Returns the number of kinds in the stack of a place."""
        return len(self.seen[place][0])

    def way(self, target, free):
        """Returns the way of an exit of a branch. `free` is the first register above the values that it takes."""
        place, count, height = target
        pairs = []
        for at in range(count):
            pair = (self.slots + height + at, free - count + at)
            if pair[0] != pair[1]:
                pairs.append(pair)
        return place, tuple(pairs)

    def ending(self, place):
        """Returns the exit that the row at a place gives."""
        instruction, targets, _ = self.rows[place]
        name = instruction[0]
        top = self.slots + self.height(place) - 1
        if name in ("block", "loop", "try_table"):
            return "go", place + 1, ()
        if name == "if":
            return "if", top, (targets[0], ()), (targets[1], ())
        if name == "end" and targets[0] != -1:
            return "go", targets[0], ()
        if name in ("br", "br_if", "br_table") and -1 not in [target[0] for target in targets]:
            return self.branch_ending(name, place, targets, top)
        return "leave", place

    def branch_ending(self, name, place, targets, top):
        """Returns the exit of a branch at a place. `top` is the register of the value on the top."""
        if name == "br":
            return ("go",) + self.way(targets[0], top + 1)
        ways = tuple([self.way(target, top) for target in targets])
        if name == "br_if":
            return "if", top, ways[0], (place + 1, ())
        return "switch", top, ways

    def lines_from(self, place):
        """Returns the list of the lines of the simple rows from a place on."""
        lines = []
        line = line_of(self.rows[place][0], self.slots + self.height(place))
        while line is not None:
            lines.append(line)
            place = place + 1
            line = line_of(self.rows[place][0], self.slots + self.height(place))
        return lines

    def block(self, place):
        """Returns the block that begins at a place."""
        lines = self.lines_from(place)
        ending = self.ending(place + len(lines))
        cost = len(lines) + int(ending[0] != "leave")
        return place, self.height(place), cost, tuple(lines), ending


def blocks(module, func):
    """Returns the list of the blocks of a function."""
    lowerer = Lowerer(module, func)
    found = {}
    waiting = [0]
    while len(waiting) > 0:
        place = waiting.pop()
        if place not in found and lowerer.is_live(place):
            block = lowerer.block(place)
            found[place] = block
            waiting.append(place + len(block[3]) + 1)
            waiting.extend([way[0] for way in ways_of(block[4])])
    return [found[place] for place in sorted(found)]

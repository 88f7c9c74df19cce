"""The registers of a block that is being done."""

from wasmhost.errors import Trap
from wasmhost.fast.lines import asked_cell, chosen_way
from wasmhost.machine.memory import accessed, loaded, store_value
from wasmhost.machine.scope import memory_of, variable_of
from wasmhost.numbers import calculate


class Registers:
    """The registers for a frame, in `cells`, and what its block has changed elsewhere.

    `variables` are pairs of a global and its former value, and `pieces` tuples of a memory, a place and former bytes.
    """

    def __init__(self, machine, frame):
        self.machine = machine
        self.frame = frame
        self.cells = dict(enumerate(frame.slots + frame.stack))
        self.variables = []
        self.pieces = []

    def values_between(self, first, behind):
        """Returns the list of the values of the registers from one on and below another one."""
        return [self.cells[cell] for cell in range(first, behind)]

    def change_variable(self, index, value):
        """Changes a global."""
        variable = variable_of(self.machine, self.frame, index)
        self.variables.append((variable, variable.value))
        variable.value = value

    def change_memory(self, name, offset, address, value):
        """Does a store."""
        memory = memory_of(self.machine, self.frame)
        at, count = accessed(memory, name, offset, address)
        self.pieces.append((memory, at, memory.read(at, count)))
        store_value(memory, name, offset, address, value)

    def take_back(self):
        """Takes back all changes of globals and memories, the last one first."""
        for variable, value in self.variables[::-1]:
            variable.value = value
        for memory, at, data in self.pieces[::-1]:
            memory.write(at, data)


def do_skip(registers, line):
    """Does a "skip" line."""


def do_const(registers, line):
    """Does a "const" line."""
    registers.cells[line[1]] = line[2]


def do_copy(registers, line):
    """Does a "copy" line."""
    registers.cells[line[1]] = registers.cells[line[2]]


def do_get(registers, line):
    """Does a "get" line."""
    registers.cells[line[1]] = variable_of(registers.machine, registers.frame, line[2]).value


def do_set(registers, line):
    """Does a "set" line."""
    registers.change_variable(line[1], registers.cells[line[2]])


def do_compute(registers, line):
    """Does a "compute" line."""
    _, name, target, operands = line
    registers.cells[target] = calculate(name, tuple([registers.cells[cell] for cell in operands]))


def do_choose(registers, line):
    """Does a "choose" line."""
    _, target, condition, first, second = line
    chosen = first
    if registers.cells[condition] == 0:
        chosen = second
    registers.cells[target] = registers.cells[chosen]


def do_load(registers, line):
    """Does a "load" line."""
    _, name, offset, target, address = line
    memory = memory_of(registers.machine, registers.frame)
    registers.cells[target] = loaded(memory, name, offset, registers.cells[address])


def do_store(registers, line):
    """Does a "store" line."""
    _, name, offset, address, value = line
    registers.change_memory(name, offset, registers.cells[address], registers.cells[value])


def do_pages(registers, line):
    """Does a "pages" line."""
    registers.cells[line[1]] = memory_of(registers.machine, registers.frame).pages


LINES = {
    "skip": do_skip,
    "const": do_const,
    "copy": do_copy,
    "get": do_get,
    "set": do_set,
    "compute": do_compute,
    "choose": do_choose,
    "load": do_load,
    "store": do_store,
    "pages": do_pages,
}


def do_lines(registers, lines):
    """Does lines and returns True, or changes nothing outside of the registers and returns False."""
    try:
        for line in lines:
            action = LINES[line[0]]
            action(registers, line)
    except Trap:
        registers.take_back()
        return False
    return True


def do_ending(registers, ending):
    """Carries out an exit and returns the place where it leads."""
    if ending[0] == "leave":
        return ending[1]
    place, move = chosen_way(ending, registers.cells.get(asked_cell(ending)))
    # All registers of a move are read before one is written.
    values = [registers.cells[origin] for _, origin in move]
    for (target, _), value in zip(move, values):
        registers.cells[target] = value
    return place

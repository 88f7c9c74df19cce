"""What the lines and the exits of blocks read and write."""

from wasmhost.words import unsigned

# The place in a line of the register that it writes.
WRITTEN = {"const": 1, "copy": 1, "get": 1, "compute": 2, "choose": 1, "load": 3, "pages": 1}

# The place in a line from which on the registers stand that it reads. The operands of "compute" are one tuple.
READ = {"copy": 2, "set": 2, "choose": 2, "load": 4, "store": 3}

OPERANDS = 3


def written_cell(line):
    """Returns the register that a line writes, or None."""
    if line[0] in WRITTEN:
        return line[WRITTEN[line[0]]]
    return None


def read_cells(line):
    """Returns the tuple of the registers that a line reads."""
    if line[0] == "compute":
        return line[OPERANDS]
    if line[0] in READ:
        return line[READ[line[0]]:]
    return ()


def with_cells(line, cells):
    """Returns the line that reads these registers instead of its own."""
    if line[0] == "compute":
        return line[:OPERANDS] + (cells,)
    if line[0] in READ:
        return line[:READ[line[0]]] + cells
    return line


def ways_of(ending):
    """Returns the tuple of the ways, which are pairs of a place and a move, that an exit can take."""
    if ending[0] == "go":
        return (ending[1:],)
    if ending[0] == "if":
        return ending[2:]
    if ending[0] == "switch":
        return ending[2]
    return ()


def asked_cell(ending):
    """Returns the register by which an exit chooses its way, or None."""
    if ending[0] in ("if", "switch"):
        return ending[1]
    return None


def chosen_way(ending, value):
    """Returns the way that an exit takes. `value` is that of the register by which it chooses, if there is one."""
    ways = ways_of(ending)
    at = 0
    if ending[0] == "if":
        at = int(value == 0)
    if ending[0] == "switch":
        at = min(unsigned("i32", value), len(ways) - 1)
    return ways[at]

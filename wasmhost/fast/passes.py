"""The three passes that improve a block."""

from wasmhost.errors import Trap
from wasmhost.fast.lines import asked_cell, chosen_way, read_cells, ways_of, with_cells, written_cell
from wasmhost.numbers import calculate


def with_code(block, lines, ending):
    """Returns the block with other lines and another exit."""
    return block[:3] + (tuple(lines), ending)


def folded_compute(line, known):
    """Returns what folding makes of a "compute" line."""
    _, name, target, operands = line
    if not all([cell in known for cell in operands]):
        return line
    try:
        value = calculate(name, tuple([known[cell] for cell in operands]))
    except Trap:
        return line
    return "const", target, value


def folded_copy(target, origin, known):
    """Returns what folding makes of a copy of a register."""
    if origin in known:
        return "const", target, known[origin]
    return "copy", target, origin


def folded_line(line, known):
    """Returns what folding makes of a line. `known` is a dict from registers to values."""
    if line[0] == "copy":
        return folded_copy(line[1], line[2], known)
    if line[0] == "compute":
        return folded_compute(line, known)
    if line[0] == "choose" and line[2] in known:
        _, target, condition, first, second = line
        if known[condition] != 0:
            return folded_copy(target, first, known)
        return folded_copy(target, second, known)
    return line


def fold(block):
    """Returns the block with what can be computed in advance."""
    known = {}
    lines = []
    for line in block[3]:
        made = folded_line(line, known)
        lines.append(made)
        if made[0] == "const":
            known[made[1]] = made[2]
        else:
            known.pop(written_cell(made), None)
    ending = block[4]
    if asked_cell(ending) in known:
        ending = ("go",) + chosen_way(ending, known[asked_cell(ending)])
    return with_code(block, lines, ending)


def with_roots(line, roots):
    """Returns the line with the registers that it reads replaced by their roots."""
    made = with_cells(line, tuple([roots.get(cell, cell) for cell in read_cells(line)]))
    if made[0] == "copy" and made[1] == made[2]:
        return ("skip",)
    return made


def forget(roots, cell):
    """Forgets what is known of a register that is written."""
    for other in list(roots):
        if other == cell or roots[other] == cell:
            del roots[other]


def copies(block):
    """Returns the block that reads roots instead of copies."""
    roots = {}
    lines = []
    for line in block[3]:
        made = with_roots(line, roots)
        lines.append(made)
        forget(roots, written_cell(made))
        if made[0] == "copy":
            roots[made[1]] = made[2]
    ending = block[4]
    if asked_cell(ending) in roots:
        ending = ending[:1] + (roots[ending[1]],) + ending[2:]
    return with_code(block, lines, ending)


def bound_behind(ending, heights, slots):
    """Returns the number below which all registers are read behind the last line."""
    if ending[0] == "leave":
        return slots + heights[ending[1]]
    bounds = [slots + heights[place] for place, _ in ways_of(ending)]
    for _, move in ways_of(ending):
        bounds.extend([origin + 1 for _, origin in move])
    if asked_cell(ending) is not None:
        bounds.append(asked_cell(ending) + 1)
    return max(bounds)


def is_idle(line, needed):
    """Returns True if a line can be left out. `needed` is a dict whose keys are the registers that are read later."""
    return line[0] == "skip" or line[0] in ("const", "copy") and line[1] not in needed


def prune(block, heights, slots):
    """Returns the block without the lines whose results are not read."""
    needed = {cell: True for cell in range(bound_behind(block[4], heights, slots))}
    kept = []
    for line in block[3][::-1]:
        if not is_idle(line, needed):
            kept.append(line)
            needed.pop(written_cell(line), None)
            for cell in read_cells(line):
                needed[cell] = True
    return with_code(block, kept[::-1], block[4])


def improve(block, heights, slots):
    """Returns the block behind all three passes."""
    return prune(copies(fold(block)), heights, slots)

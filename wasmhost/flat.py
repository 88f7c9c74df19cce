"""The flat code of functions."""

from wasmhost.check.code import count_places, own_function, stacks
from wasmhost.instructions import BLOCKS, bodies_of, shape_kinds


class Flattener:
    """The flat code of a function, row by row.

    `seen` is the list of the stacks at the places of the function. `ways` are the exits of the labels, the innermost
    one last, and `catchers` are the catchers that are active, the innermost ones first.
    """

    def __init__(self, module, func):
        self.signatures = module.signatures
        self.seen = stacks(module, func)
        self.rows = []
        self.ways = []
        self.catchers = ()

    def put_row(self, instruction, targets):
        """Puts a row behind the others."""
        self.rows.append((instruction, targets, self.catchers))

    def way_of(self, label):
        """Returns the exit of a label."""
        return self.ways[len(self.ways) - 1 - label]

    def put_body(self, body, way, target):
        """Puts the rows of a body whose label has this exit and whose end leads to the target."""
        self.ways.append(way)
        for instruction in body:
            self.put_instruction(instruction)
        self.put_row(("end",), (target,))
        self.ways.pop()

    def put_instruction(self, instruction):
        """Puts the rows of an instruction."""
        name = instruction[0]
        if name in BLOCKS:
            self.put_block(instruction)
        elif name in ("br", "br_if"):
            self.put_row((name,), (self.way_of(instruction[1]),))
        elif name == "br_table":
            labels = instruction[1] + instruction[2:]
            self.put_row((name,), tuple([self.way_of(label) for label in labels]))
        else:
            self.put_row(instruction, ())

    def put_block(self, instruction):
        """Puts the rows of an instruction with code."""
        name = instruction[0]
        bodies = bodies_of(instruction)
        place = len(self.rows)
        behind = place + 1 + sum([count_places(body) for body in bodies])
        targets = ()
        if name == "if":
            targets = (place + 1, place + 1 + count_places(bodies[0]))
        self.put_row((name,), targets)
        outer = self.catchers
        if name == "try_table":
            self.catchers = tuple([(tag,) + self.way_of(label) for tag, label in instruction[2]]) + outer
        way = self.block_way(instruction, place, behind)
        for body in bodies:
            self.put_body(body, way, behind)
        self.catchers = outer

    def block_way(self, instruction, place, behind):
        """Returns the exit of the label of a block between these places."""
        params, results = shape_kinds(self.signatures, instruction[1])
        # The first place inside has the parameters on its stack, and below them what the block leaves alone.
        height = len(self.seen[place + 1][0]) - len(params)
        if instruction[0] == "loop":
            return place, len(params), height
        return behind, len(results), height


def flatten(module, func):
    """Returns the flat code of a function, a tuple of rows."""
    index, _, body = own_function(module, func)
    flattener = Flattener(module, func)
    _, results = module.signatures[index]
    flattener.put_body(body, (-1, len(results), 0), -1)
    return tuple(flattener.rows)

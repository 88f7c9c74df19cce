"""Facts about instructions that several parts of the program need."""

BLOCKS = ("block", "loop", "if", "try_table")

# What may stand in a constant of a module.
CONSTANTS = ("i32.const", "i64.const", "global.get")

CONSTANT_BITS = {"i32.const": 32, "i64.const": 64}

ACCESS_BITS = {
    "i32.load": 32,
    "i64.load": 64,
    "i32.load8_s": 8,
    "i32.load8_u": 8,
    "i32.load16_s": 16,
    "i32.load16_u": 16,
    "i64.load8_s": 8,
    "i64.load8_u": 8,
    "i64.load16_s": 16,
    "i64.load16_u": 16,
    "i64.load32_s": 32,
    "i64.load32_u": 32,
    "i32.store": 32,
    "i64.store": 64,
    "i32.store8": 8,
    "i32.store16": 16,
    "i64.store8": 8,
    "i64.store16": 16,
    "i64.store32": 32,
}


def shape_kinds(signatures, shape):
    """Returns the parameters and the results of the shape of a block. An index must name one of the signatures."""
    if shape is None:
        return (), ()
    if shape in ("i32", "i64"):
        return (), (shape,)
    return signatures[shape]


def bodies_of(instruction):
    """Returns the tuple of the bodies inside of an instruction."""
    name = instruction[0]
    if name not in BLOCKS:
        return ()
    if name == "if":
        return instruction[2:]
    return instruction[-1:]

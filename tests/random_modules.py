"""Modules that are chosen at random, but the same ones each time: indexes and labels may name nothing."""
from support import ACCESS_OPCODES
from wasmhost.modules import Module
from wasmhost.numbers import INSTRUCTIONS

KINDS = ("i32", "i64")

SORTS = ("func", "table", "memory", "global", "tag")

PLAIN = ("nop", "unreachable", "drop", "select", "return", "memory.size", "memory.grow", "memory.fill", "memory.copy")

INDEXED = ("local.get", "local.set", "local.tee", "global.get", "global.set", "call", "throw", "br", "br_if")


def some(choices, most, make):
    return tuple(make(choices) for _ in range(choices.randint(0, most)))


def index(choices):
    return choices.choice((0, 0, 1, 2, 3, choices.randint(0, 300), 4294967295))


def kind(choices):
    return choices.choice(KINDS)


def value(choices, bits):
    half = 2 ** (bits - 1)
    return choices.choice((0, 1, -1, half - 1, -half, choices.randint(-100, 100), choices.randint(-half, half - 1)))


def constant(choices):
    name = choices.choice(("i32.const", "i64.const", "global.get"))
    if name == "global.get":
        return name, index(choices)
    return name, value(choices, int(name[1:3]))


def limit(choices):
    return index(choices), choices.choice((None, index(choices)))


def name_of(choices):
    letters = [chr(code) for code in range(32, 127) if code != 37]
    return "".join(choices.choice(letters) for _ in range(choices.choice((0, 1, 2, 5, 60))))


def imported(choices):
    sort = choices.choice(SORTS)
    what = index(choices)
    if sort in ("table", "memory"):
        what = limit(choices)
    if sort == "global":
        what = (kind(choices), choices.choice((True, False)))
    return name_of(choices), name_of(choices), sort, what


def body(choices, depth):
    return some(choices, 4, lambda choices: instruction(choices, depth))


def block(choices, depth):
    name = choices.choice(("block", "loop", "if", "try_table"))
    shape = choices.choice((None, "i32", "i64", index(choices)))
    if name == "if":
        return name, shape, body(choices, depth - 1), body(choices, depth - 1)
    if name == "try_table":
        catches = some(choices, 3, lambda choices: (choices.choice((None, index(choices))), index(choices)))
        return name, shape, catches, body(choices, depth - 1)
    return name, shape, body(choices, depth - 1)


def instruction(choices, depth):
    sort = choices.randint(0, 9)
    if sort < 3 and depth > 0:
        return block(choices, depth)
    if sort == 4:
        name = choices.choice(KINDS)
        return name + ".const", value(choices, int(name[1:]))
    if sort == 5:
        return choices.choice(INDEXED), index(choices)
    if sort == 6:
        return choices.choice(ACCESS_OPCODES)[1], choices.choice((0, 1, 2, 3, 31)), index(choices)
    if sort == 7:
        return "br_table", some(choices, 4, index), index(choices)
    if sort == 8:
        return "call_indirect", index(choices), index(choices)
    return (choices.choice(PLAIN + INSTRUCTIONS),)


def random_module(choices):
    return Module(
        signatures=some(choices, 3, lambda choices: (some(choices, 3, kind), some(choices, 3, kind))),
        imports=some(choices, 3, imported),
        functions=some(choices, 3, lambda choices: (index(choices), some(choices, 3, kind), body(choices, 3))),
        tables=some(choices, 2, limit),
        memories=some(choices, 2, limit),
        tags=some(choices, 2, index),
        variables=some(choices, 2, lambda choices: (kind(choices), choices.choice((True, False)), constant(choices))),
        exports=some(choices, 3, lambda choices: (name_of(choices), choices.choice(SORTS), index(choices))),
        start=choices.choice((None, index(choices))),
        table_segments=some(choices, 2, lambda choices: (index(choices), constant(choices), some(choices, 4, index))),
        memory_segments=some(choices, 2, lambda choices: (index(choices), constant(choices), some(
            choices, 9, lambda choices: choices.randint(0, 255)))),
    )

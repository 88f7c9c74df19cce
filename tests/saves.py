"""Saves as nested lists, written and read anew for the tests: a tree can be changed and packed again.

A tree is a dict from the names of the parts of point 905 to lists. Files and strings are lists of numbers.
"""
import copy

MODULUS = 2147483647

DIGEST_MODULUS = 2305843009213693951

KINDS = ("func", "table", "memory", "global", "tag")

STATUSES = ("running", "finished", "trapped", "thrown", "asks")


def check_of(data, modulus=MODULUS):
    check = 0
    for byte in data:
        check = (check * 257 + byte + 1) % modulus
    return check


def packed(numbers, head=(87, 65, 83, 1)):
    data = list(head)
    for number in numbers:
        while number >= 128:
            data.append(128 + number % 128)
            number //= 128
        data.append(number)
    return with_check(data)


def with_check(data):
    check = check_of(data)
    return list(data) + [check >> 8 * at & 255 for at in range(4)]


def unpacked(data):
    numbers, number, weight = [], 0, 1
    for byte in data[4:-4]:
        number += (byte & 127) * weight
        weight *= 128
        if byte < 128:
            numbers.append(number)
            number, weight = 0, 1
    return numbers


def listed(items):
    return [len(items)] + [number for item in items for number in item]


def plain(items):
    return [len(items)] + list(items)


def value(number):
    return 2 * number if number >= 0 else -2 * number - 1


def values(items):
    return plain([value(item) for item in items])


def kind(word):
    return {"i32": 0, "i64": 1}.get(word, word)


def signature(pair):
    return plain([kind(word) for word in pair[0]]) + plain([kind(word) for word in pair[1]])


def text(word):
    return plain([ord(letter) - 32 if isinstance(letter, str) else letter for letter in word])


def numbers_of(tree):
    """The numbers of a tree."""
    out = listed([plain(row[0]) + [number for part in row[1:] for number in plain(part)] for row in tree["instances"]])
    out += listed([[0, row[1], row[2]] if row[0] == "code" else [1] + signature(row[1]) if row[0] == "host" else list(row) for row in tree["functions"]])
    out += listed([[most] + plain([0 if func is None else func + 1 for func in entries]) for most, entries in tree["tables"]])
    out += listed([[pages, most] + listed(cells) for pages, most, cells in tree["memories"]])
    out += listed([[kind(word), int(mutable), value(number)] for word, mutable, number in tree["globals"]])
    out += listed([signature(pair) for pair in tree["tags"]])
    out += listed([[func, place] + values(slots) + values(stack) for func, place, slots, stack in tree["calls"]])
    name, *rest = tree["status"]
    out += [STATUSES.index(name) if name in STATUSES else name]
    if name == "finished":
        out += values(rest[0])
    elif name == "trapped":
        out += rest
    elif name in ("thrown", "asks"):
        out += [rest[0]] + values(rest[1])
    out += [tree["spent"]]
    out += listed([text(module) + text(word) + [KINDS.index(sort) if sort in KINDS else sort, index] for module, word, sort, index in tree["names"]])
    out += listed(tree["points"])
    return out + plain(tree["fast"])


def save_of(tree):
    return packed(numbers_of(tree))


def tree_of(engine):
    """The tree of an engine, from what its methods and its store tell."""
    from wasmhost.binary.modules import encode
    store = engine.machine.store
    reasons = ("unreachable", "integer divide by zero", "integer overflow", "out of bounds memory access", "undefined element", "uninitialized element",
               "indirect call mismatch", "call stack exhausted")
    status = list(engine.status()[:-1])
    if status[0] == "trapped":
        status[1] = reasons.index(status[1])
    return copy.deepcopy({
        "instances": [[encode(row.module), list(row.functions), list(row.tables), list(row.memories), list(row.variables), list(row.tags)]
                      for row in store.instances],
        "functions": [list(row[:3]) if row[0] == "code" else ["host", row[2]] for row in store.functions],
        "tables": [[row.most, list(row.entries)] for row in store.tables],
        "memories": [[row.pages, row.most, [[at, row.cells[at]] for at in sorted(row.cells)]] for row in store.memories],
        "globals": [[row.kind, row.mutable, row.value] for row in store.variables],
        "tags": list(store.tags),
        "calls": [[func, place, list(slots), list(stack)] for func, _, place, slots, stack in engine.frames()],
        "status": status,
        "spent": engine.status()[-1],
        "names": [list(row) for row in engine.names()],
        "points": [list(row) for row in engine.breaks()],
        "fast": engine.fast_functions(),
    })


def digest_of(engine):
    """The digest of point 1001, counted anew from the save of an engine without names, breakpoints and fast functions."""
    tree = tree_of(engine)
    tree.update(names=[], points=[], fast=[])
    return check_of(save_of(tree), DIGEST_MODULUS)

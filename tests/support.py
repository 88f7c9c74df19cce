"""What several tests need."""

from wasmhost.errors import DecodeError, ParseError


def decode_fault(test, reason, place, action, *arguments):
    """Checks that the call raises DecodeError with exactly this reason and place."""
    with test.assertRaises(DecodeError) as caught:
        action(*arguments)
    test.assertEqual((caught.exception.reason, caught.exception.place), (reason, place))


def nested(depth, name="block"):
    """A body with so many instructions of this name, each in the body of the one before."""
    body = ()
    for _ in range(depth):
        if name == "if":
            body = ((name, None, body, ()),)
        elif name == "try_table":
            body = ((name, None, (), body),)
        else:
            body = ((name, None, body),)
    return body


def is_all_tuples(value):
    """True if the value holds no list, dict or set, however deep."""
    if isinstance(value, tuple):
        return all(is_all_tuples(item) for item in value)
    return value is None or isinstance(value, (int, str))


NUMERIC_OPCODES = (
    (69, "i32", "eqz"), (70, "i32", "eq"), (71, "i32", "ne"), (72, "i32", "lt_s"), (73, "i32", "lt_u"),
    (74, "i32", "gt_s"), (75, "i32", "gt_u"), (76, "i32", "le_s"), (77, "i32", "le_u"), (78, "i32", "ge_s"),
    (79, "i32", "ge_u"),
    (80, "i64", "eqz"), (81, "i64", "eq"), (82, "i64", "ne"), (83, "i64", "lt_s"), (84, "i64", "lt_u"),
    (85, "i64", "gt_s"), (86, "i64", "gt_u"), (87, "i64", "le_s"), (88, "i64", "le_u"), (89, "i64", "ge_s"),
    (90, "i64", "ge_u"),
    (103, "i32", "clz"), (104, "i32", "ctz"), (105, "i32", "popcnt"),
    (106, "i32", "add"), (107, "i32", "sub"), (108, "i32", "mul"), (109, "i32", "div_s"), (110, "i32", "div_u"),
    (111, "i32", "rem_s"), (112, "i32", "rem_u"), (113, "i32", "and"), (114, "i32", "or"), (115, "i32", "xor"),
    (116, "i32", "shl"), (117, "i32", "shr_s"), (118, "i32", "shr_u"), (119, "i32", "rotl"), (120, "i32", "rotr"),
    (121, "i64", "clz"), (122, "i64", "ctz"), (123, "i64", "popcnt"),
    (124, "i64", "add"), (125, "i64", "sub"), (126, "i64", "mul"), (127, "i64", "div_s"), (128, "i64", "div_u"),
    (129, "i64", "rem_s"), (130, "i64", "rem_u"), (131, "i64", "and"), (132, "i64", "or"), (133, "i64", "xor"),
    (134, "i64", "shl"), (135, "i64", "shr_s"), (136, "i64", "shr_u"), (137, "i64", "rotl"), (138, "i64", "rotr"),
    (167, "i32", "wrap_i64"), (172, "i64", "extend_i32_s"), (173, "i64", "extend_i32_u"),
    (192, "i32", "extend8_s"), (193, "i32", "extend16_s"), (194, "i64", "extend8_s"), (195, "i64", "extend16_s"),
    (196, "i64", "extend32_s"),
)

ACCESS_OPCODES = (
    (40, "i32.load"), (41, "i64.load"),
    (44, "i32.load8_s"), (45, "i32.load8_u"), (46, "i32.load16_s"), (47, "i32.load16_u"),
    (48, "i64.load8_s"), (49, "i64.load8_u"), (50, "i64.load16_s"), (51, "i64.load16_u"),
    (52, "i64.load32_s"), (53, "i64.load32_u"),
    (54, "i32.store"), (55, "i64.store"), (58, "i32.store8"), (59, "i32.store16"),
    (60, "i64.store8"), (61, "i64.store16"), (62, "i64.store32"),
)

PLAIN_OPCODES = ((0, "unreachable"), (1, "nop"), (15, "return"), (26, "drop"), (27, "select"))

NUMBER_OPCODES = (
    (8, "throw"), (12, "br"), (13, "br_if"), (16, "call"), (32, "local.get"), (33, "local.set"), (34, "local.tee"),
    (35, "global.get"), (36, "global.set"),
)

OTHER_OPCODES = (
    (2, "block"), (3, "loop"), (4, "if"), (31, "try_table"), (14, "br_table"), (17, "call_indirect"),
    (65, "i32.const"), (66, "i64.const"), (63, "memory.size"), (64, "memory.grow"),
)


def one_byte_opcodes():
    """A dict from the names of points 213 to 215 to their one-byte opcodes."""
    found = {name: code for code, name in PLAIN_OPCODES + NUMBER_OPCODES + OTHER_OPCODES + ACCESS_OPCODES}
    for code, kind, word in NUMERIC_OPCODES:
        found[kind + "." + word] = code
    return found


# Each instruction of points 213 to 215 in some form, with its bytes written out.
INSTRUCTION_BYTES = [
    ((name,), [code]) for code, name in PLAIN_OPCODES
] + [
    ((kind + "." + word,), [code]) for code, kind, word in NUMERIC_OPCODES
] + [
    ((name, 3), [code, 3]) for code, name in NUMBER_OPCODES
] + [
    ((name, 300), [code, 172, 2]) for code, name in NUMBER_OPCODES
] + [
    ((name, 4294967295), [code, 255, 255, 255, 255, 15]) for code, name in NUMBER_OPCODES
] + [
    ((name, 2, 129), [code, 2, 129, 1]) for code, name in ACCESS_OPCODES
] + [
    ((name, 31, 0), [code, 31, 0]) for code, name in ACCESS_OPCODES
] + [
    (("br_table", (), 0), [14, 0, 0]),
    (("br_table", (1, 200, 3), 128), [14, 3, 1, 200, 1, 3, 128, 1]),
    (("call_indirect", 128, 5), [17, 128, 1, 5]),
    (("i32.const", 0), [65, 0]),
    (("i32.const", -1), [65, 127]),
    (("i32.const", 64), [65, 192, 0]),
    (("i32.const", -65), [65, 191, 127]),
    (("i32.const", 2147483647), [65, 255, 255, 255, 255, 7]),
    (("i32.const", -2147483648), [65, 128, 128, 128, 128, 120]),
    (("i64.const", 7), [66, 7]),
    (("i64.const", 9223372036854775807), [66, 255, 255, 255, 255, 255, 255, 255, 255, 255, 0]),
    (("i64.const", -9223372036854775808), [66, 128, 128, 128, 128, 128, 128, 128, 128, 128, 127]),
    (("memory.size",), [63, 0]),
    (("memory.grow",), [64, 0]),
    (("memory.copy",), [252, 10, 0, 0]),
    (("memory.fill",), [252, 11, 0]),
    (("block", None, ()), [2, 64, 11]),
    (("block", "i32", (("nop",), ("drop",))), [2, 127, 1, 26, 11]),
    (("loop", "i64", (("nop",),)), [3, 126, 1, 11]),
    (("loop", 0, ()), [3, 0, 11]),
    (("block", 63, ()), [2, 63, 11]),
    (("block", 64, ()), [2, 192, 0, 11]),
    (("block", 4294967295, ()), [2, 255, 255, 255, 255, 15, 11]),
    (("if", None, (), ()), [4, 64, 11]),
    (("if", 5, (("nop",),), ()), [4, 5, 1, 11]),
    (("if", None, (), (("nop",),)), [4, 64, 5, 1, 11]),
    (("if", "i32", (("drop",),), (("nop",), ("return",))), [4, 127, 26, 5, 1, 15, 11]),
    (("try_table", None, (), ()), [31, 64, 0, 11]),
    (("try_table", "i64", ((3, 200), (None, 1), (0, 0)), (("nop",),)),
     [31, 126, 3, 0, 3, 200, 1, 2, 1, 0, 0, 0, 1, 11]),
    (("block", None, (("if", None, (("loop", None, ()),), (("nop",),)), ("nop",))),
     [2, 64, 4, 64, 3, 64, 11, 5, 1, 11, 1, 11]),
]


def parse_fault(test, reason, line, column, action, text):
    """Checks that the call raises ParseError with exactly this reason, line and column."""
    with test.assertRaises(ParseError) as caught:
        action(text)
    fault = caught.exception
    test.assertEqual((fault.reason, fault.line, fault.column), (reason, line, column), text)


def marked(text):
    """A text without its only mark @, and the line and the column of the mark."""
    before, behind = text.split("@")
    return before + behind, before.count("\n") + 1, len(before) - before.rfind("\n")

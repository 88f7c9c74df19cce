import copy
import unittest

from support import INSTRUCTION_BYTES, decode_fault, is_all_tuples, nested
from wasmhost.binary.modules import decode, encode
from wasmhost.errors import DecodeError, LimitReached
from wasmhost.modules import Module, equal

HEAD = [0, 97, 115, 109, 1, 0, 0, 0]

# A module with each sort of thing.
FULL = Module(
    signatures=((("i32", "i64"), ("i64",)), ((), ()), (("i64",), ("i32", "i32"))),
    imports=(
        ("a", "b", "func", 300),
        ("", "t", "table", (1, None)),
        ("m m", "~", "memory", (0, 2)),
        ("g", "", "global", ("i64", True)),
        ("g", "h", "global", ("i32", False)),
        ("x", "y", "tag", 1),
    ),
    functions=(
        (0, ("i32", "i32", "i64", "i32"), (("i32.const", 7), ("drop",))),
        (1, (), ()),
        (2, ("i64",), (("if", None, (("nop",),), (("unreachable",),)),)),
    ),
    tables=((0, 200), (3, None)),
    memories=((1, 65536), (4294967295, None)),
    tags=(1, 128),
    variables=(
        ("i32", False, ("i32.const", -1)),
        ("i64", True, ("i64.const", -9223372036854775808)),
        ("i64", False, ("global.get", 200)),
    ),
    exports=(("f", "func", 0), ("t", "table", 1), ("", "memory", 2), ("g g", "global", 300), ("x", "tag", 4)),
    start=200,
    table_segments=((0, ("i32.const", 1), (0, 300)), (1, ("global.get", 0), ())),
    memory_segments=((0, ("i32.const", 1), (0, 255)), (3, ("global.get", 0), ()), (0, ("i64.const", 1), (9,))),
)

def section(code, content):
    """A section whose size is less than 128."""
    return [code, len(content)] + content


FULL_SECTIONS = [
    section(1, [3, 96, 2, 127, 126, 1, 126, 96, 0, 0, 96, 1, 126, 2, 127, 127]),
    section(2, [6,
                1, 97, 1, 98, 0, 172, 2,
                0, 1, 116, 1, 112, 0, 1,
                3, 109, 32, 109, 1, 126, 2, 1, 0, 2,
                1, 103, 0, 3, 126, 1,
                1, 103, 1, 104, 3, 127, 0,
                1, 120, 1, 121, 4, 0, 1]),
    section(3, [3, 0, 1, 2]),
    section(4, [2, 112, 1, 0, 200, 1, 112, 0, 3]),
    section(5, [2, 1, 1, 128, 128, 4, 0, 255, 255, 255, 255, 15]),
    section(13, [2, 0, 1, 0, 128, 1]),
    section(6, [3,
                127, 0, 65, 127, 11,
                126, 1, 66, 128, 128, 128, 128, 128, 128, 128, 128, 128, 127, 11,
                126, 0, 35, 200, 1, 11]),
    section(7, [5, 1, 102, 0, 0, 1, 116, 1, 1, 0, 2, 2, 3, 103, 32, 103, 3, 172, 2, 1, 120, 4, 4]),
    section(8, [200, 1]),
    section(9, [2, 0, 65, 1, 11, 2, 0, 172, 2, 2, 1, 35, 0, 11, 0, 0]),
    section(10, [3,
                 11, 3, 2, 127, 1, 126, 1, 127, 65, 7, 26, 11,
                 2, 0, 11,
                 10, 1, 1, 126, 4, 64, 1, 5, 0, 11, 11]),
    section(11, [3, 0, 65, 1, 11, 2, 0, 255, 2, 3, 35, 0, 11, 0, 0, 66, 1, 11, 1, 9]),
]

FULL_FILE = HEAD + [byte for section in FULL_SECTIONS for byte in section]

SIZE = len(FULL_FILE)


def file_of(*sections):
    return HEAD + [byte for row in sections for byte in row]


def custom(name, rest=()):
    return section(0, [len(name)] + [ord(character) for character in name] + list(rest))


class Written(unittest.TestCase):
    def test_each_sort_of_thing(self):
        self.assertEqual(encode(FULL), FULL_FILE)
        self.assertIsInstance(encode(FULL), list)

    def test_empty_module(self):
        self.assertEqual(encode(Module()), HEAD)

    def test_each_part_alone(self):
        parts = {"signatures": 1, "imports": 2, "tables": 4, "memories": 5, "tags": 13, "variables": 6, "exports": 7,
                 "start": 8, "table_segments": 9, "memory_segments": 11}
        for name, code in parts.items():
            with self.subTest(name):
                expected = [row for row in FULL_SECTIONS if row[0] == code][0]
                self.assertEqual(encode(Module(**{name: getattr(FULL, name)})), HEAD + expected)

    def test_functions_alone(self):
        rows = [row for row in FULL_SECTIONS if row[0] in (3, 10)]
        self.assertEqual(encode(Module(functions=FULL.functions)), file_of(*rows))

    def test_start_0(self):
        self.assertEqual(encode(Module(start=0)), HEAD + [8, 1, 0])

    def test_locals(self):
        for kinds, groups in (((), [0]), (("i32",), [1, 1, 127]), (("i64",) * 3, [1, 3, 126]),
                              (("i32", "i64", "i32"), [3, 1, 127, 1, 126, 1, 127]),
                              (("i32",) * 1000, [1, 232, 7, 127])):
            content = groups + [11]
            self.assertEqual(encode(Module(functions=((0, kinds, ()),))),
                             file_of(section(3, [1, 0]), section(10, [1, len(content)] + content)))

    def test_many_groups_of_locals(self):
        kinds = ("i32", "i64") * 500
        data = encode(Module(functions=((0, kinds, ()),)))
        self.assertEqual(data[12:], [10, 214, 15, 1, 211, 15, 232, 7] + [1, 127, 1, 126] * 500 + [11])

    def test_if_without_a_second_body(self):
        data = encode(Module(functions=((0, (), (("if", None, (("nop",),), ()),)),)))
        self.assertEqual(data, file_of(section(3, [1, 0]), section(10, [1, 6, 0, 4, 64, 1, 11, 11])))

    def test_limit(self):
        # 8 bytes of the head, 3 of the section, 2 for the number of items, 1 or 2 for the other parts of a segment.
        head = Module(memory_segments=((0, ("i32.const", 0), (7,) * 3980),))
        self.assertEqual(len(encode(head)), 3980 + 8 + 3 + 1 + 4 + 2)
        most = Module(memory_segments=((0, ("i32.const", 0), (7,) * 3982),))
        self.assertEqual(len(encode(most)), 4000)
        for more in (3983, 4500):
            with self.assertRaises(LimitReached) as caught:
                encode(Module(memory_segments=((0, ("i32.const", 0), (7,) * more),)))
            self.assertEqual(caught.exception.what, "file")

    def test_module_stays(self):
        before = copy.deepcopy(vars(FULL))
        encode(FULL)
        self.assertEqual(vars(FULL), before)

    def test_lists_are_new(self):
        encode(Module()).append(1)
        self.assertEqual(encode(Module()), HEAD)


class Read(unittest.TestCase):
    def same(self, data, module):
        found = decode(data)
        self.assertIsInstance(found, Module)
        self.assertEqual(vars(found), vars(module))
        self.assertTrue(equal(found, module))
        self.assertTrue(is_all_tuples(tuple(vars(found).values())))

    def test_each_sort_of_thing(self):
        before = list(FULL_FILE)
        self.same(FULL_FILE, FULL)
        self.assertEqual(FULL_FILE, before)

    def test_mutable_is_a_truth_value(self):
        found = decode(FULL_FILE)
        self.assertIs(found.imports[3][3][1], True)
        self.assertIs(found.imports[4][3][1], False)
        self.assertIs(found.variables[0][1], False)
        self.assertIs(found.variables[1][1], True)

    def test_empty_module(self):
        self.same(HEAD, Module())
        self.assertIsNot(decode(HEAD), decode(HEAD))

    def test_empty_sections(self):
        rows = [[code, 1, 0] for code in (1, 2, 3, 4, 5, 13, 6, 7, 9, 12, 10, 11)]
        self.same(file_of(*rows), Module())
        for row in rows:
            self.same(HEAD + row, Module())

    def test_custom_sections(self):
        extra = custom("a name", [0, 255, 3])
        rows = [extra]
        for row in FULL_SECTIONS:
            rows += [row, extra, custom("")]
        self.same(file_of(*rows), FULL)
        self.same(HEAD + [0, 1, 0], Module())
        self.same(HEAD + custom("x" * 60), Module())

    def test_section_12(self):
        rows = list(FULL_SECTIONS)
        rows.insert(10, [12, 1, 3])
        self.same(file_of(*rows), FULL)
        self.same(HEAD + [12, 1, 0], Module())
        self.same(HEAD + [12, 2, 128, 0], Module())

    def test_longer_forms(self):
        self.same(HEAD + [8, 131, 0, 129, 128, 0], Module(start=1))
        self.same(HEAD + [5, 133, 128, 0, 129, 0, 0, 130, 0], Module(memories=((2, None),)))
        self.same(HEAD + section(6, [1, 127, 0, 65, 255, 255, 255, 255, 127, 11]),
                  Module(variables=(("i32", False, ("i32.const", -1)),)))

    def test_segments_with_the_number_2(self):
        rows = section(9, [1, 2, 0, 65, 0, 11, 0, 1, 5]), section(11, [1, 130, 0, 0, 65, 0, 11, 1, 5])
        self.same(file_of(*rows), Module(table_segments=((0, ("i32.const", 0), (5,)),),
                                         memory_segments=((0, ("i32.const", 0), (5,)),)))

    def test_groups_of_locals(self):
        content = [5, 0, 127, 2, 127, 0, 126, 1, 127, 1, 126, 11]
        self.same(file_of(section(3, [1, 4]), section(10, [1, len(content)] + content)),
                  Module(functions=((4, ("i32", "i32", "i32", "i64"), ()),)))

    def test_1000_locals(self):
        content = [2, 231, 7, 127, 1, 126, 11]
        module = decode(file_of(section(3, [1, 0]), section(10, [1, len(content)] + content)))
        self.assertEqual(module.functions[0][1], ("i32",) * 999 + ("i64",))

    def test_each_instruction(self):
        for instruction, _ in INSTRUCTION_BYTES:
            module = Module(functions=((0, (), (instruction,)),))
            self.same(encode(module), module)

    def test_60_deep(self):
        for name in ("block", "loop", "if", "try_table"):
            module = Module(functions=((0, (), nested(60, name)), (0, (), nested(60, name))))
            self.same(encode(module), module)

    def test_longest_file(self):
        data = HEAD + [0, 149, 31, 0] + [1] * 3988
        self.assertEqual(len(data), 4000)
        self.same(data, Module())
        for longer in (data + [0], [7] * 4001, [0] * 5000):
            before = list(longer)
            with self.assertRaises(LimitReached) as caught:
                decode(longer)
            self.assertEqual(caught.exception.what, "file")
            self.assertEqual(longer, before)


class Faults(unittest.TestCase):
    def fault(self, reason, place, data):
        before = list(data)
        decode_fault(self, reason, place, decode, data)
        self.assertEqual(data, before)

    def in_section(self, reason, place, code, content, front=()):
        """The place counts from the first byte of the content."""
        data = file_of(*front, section(code, content))
        self.fault(reason, len(data) - len(content) + place, data)
        # What stands behind does not matter.
        behind = data + [0, 1, 0, 255]
        decode_fault(self, reason, len(data) - len(content) + place, decode, behind)

    def test_head(self):
        for at in range(8):
            for byte in (1, 96, 255):
                data = list(HEAD)
                if data[at] != byte:
                    data[at] = byte
                    self.fault("not a module", at, data)
                    self.fault("not a module", at, data[:at + 1])
            self.fault("unexpected end", at, HEAD[:at])
        self.fault("not a module", 4, [0, 97, 115, 109, 2, 1, 1, 1])

    def test_unknown_sections(self):
        for code in (14, 15, 127, 128, 255):
            self.fault("unknown section", 8, HEAD + [code, 0])
            self.fault("unknown section", 8, HEAD + [code])
            self.fault("unknown section", 11, HEAD + [1, 1, 0, code])

    def test_order(self):
        order = (1, 2, 3, 4, 5, 13, 6, 7, 8, 9, 12, 10, 11)
        for at, first in enumerate(order):
            for second in order:
                data = HEAD + [first, 1, 0] + [second, 1, 0]
                later = HEAD + [first, 1, 0] + custom("") + [second, 1, 0]
                if order.index(second) > at:
                    decode(data)
                    decode(later)
                else:
                    self.fault("section out of order", 11, data)
                    self.fault("section out of order", 11, data[:12])
                    self.fault("section out of order", 14, later)

    def test_kinds(self):
        for byte in (0, 64, 96, 112, 125, 128, 255):
            self.in_section("invalid kind", 3, 1, [1, 96, 1, byte, 0])
            self.in_section("invalid kind", 4, 1, [1, 96, 0, 1, byte])
            self.in_section("invalid kind", 4, 2, [1, 0, 0, 3, byte, 0])
            self.in_section("invalid kind", 1, 6, [1, byte, 0, 65, 0, 11])
            self.in_section("invalid kind", 4, 10, [1, 4, 1, 0, byte, 11], [[3, 2, 1, 0]])

    def test_signatures(self):
        for byte in (0, 95, 97, 224):
            self.in_section("invalid signature", 1, 1, [1, byte, 0, 0])
            self.in_section("invalid signature", 4, 1, [2, 96, 0, 0, byte])

    def test_imports(self):
        for byte in (5, 128, 255):
            self.in_section("invalid import kind", 3, 2, [1, 0, 0, byte, 0])
            self.in_section("invalid import kind", 5, 2, [1, 1, 97, 1, 98, byte, 0])
        self.in_section("invalid table kind", 4, 2, [1, 0, 0, 1, 111, 0, 0])
        self.in_section("invalid limits", 5, 2, [1, 0, 0, 1, 112, 2, 0, 0])
        self.in_section("invalid limits", 4, 2, [1, 0, 0, 2, 3, 0, 0])
        self.in_section("invalid flag", 5, 2, [1, 0, 0, 3, 127, 2])
        self.in_section("invalid tag kind", 4, 2, [1, 0, 0, 4, 1, 0])
        self.in_section("invalid name character", 2, 2, [1, 1, 37, 0, 0, 0])
        self.in_section("invalid name character", 4, 2, [1, 0, 2, 97, 127, 0, 0])
        self.in_section("name too long", 2, 2, [1, 61] + [97] * 61 + [0, 0, 0])
        self.in_section("name too long", 3, 2, [1, 0, 61] + [97] * 61 + [0, 0])
        self.in_section("number too large", 8, 2, [1, 0, 0, 0, 255, 255, 255, 255, 16])

    def test_tables_and_memories(self):
        for byte in (0, 64, 111, 113, 240):
            self.in_section("invalid table kind", 1, 4, [1, byte, 0, 0])
        for byte in (2, 3, 128, 255):
            self.in_section("invalid limits", 2, 4, [1, 112, byte, 0, 0])
            self.in_section("invalid limits", 1, 5, [1, byte, 0, 0])
        self.in_section("number too large", 6, 5, [1, 0, 255, 255, 255, 255, 16])
        self.in_section("number too long", 7, 5, [1, 1, 0, 255, 255, 255, 255, 128, 0])

    def test_tags(self):
        for byte in (1, 2, 128):
            self.in_section("invalid tag kind", 1, 13, [1, byte, 0])

    def test_globals(self):
        for byte in (2, 3, 128, 255):
            self.in_section("invalid flag", 2, 6, [1, 127, byte, 65, 0, 11])
        for byte in (0, 11, 32, 34, 36, 64, 67, 255):
            self.in_section("invalid constant", 3, 6, [1, 127, 0, byte, 0, 11])
        for byte in (0, 10, 12, 65, 139):
            self.in_section("missing constant end", 5, 6, [1, 127, 0, 65, 0, byte])
            self.in_section("missing constant end", 5, 6, [1, 127, 0, 66, 0, byte])
            self.in_section("missing constant end", 5, 6, [1, 127, 0, 35, 0, byte])
        self.in_section("number too large", 8, 6, [1, 127, 0, 65, 255, 255, 255, 255, 8, 11])
        self.in_section("number too large", 13, 6, [1, 126, 0, 66] + [255] * 9 + [1, 11])
        self.in_section("number too large", 8, 6, [1, 127, 0, 35, 255, 255, 255, 255, 16, 11])

    def test_exports(self):
        for byte in (5, 64, 128, 255):
            self.in_section("invalid export kind", 2, 7, [1, 0, byte, 0])
        self.in_section("name too long", 2, 7, [1, 61] + [97] * 61 + [0, 0])
        self.in_section("invalid name character", 3, 7, [1, 2, 97, 31, 0, 0])

    def test_segments(self):
        for number in (1, 3, 4, 127):
            self.in_section("unsupported segment", 2, 9, [1, number, 65, 0, 11, 0])
            self.in_section("unsupported segment", 2, 11, [1, number, 65, 0, 11, 0])
        self.in_section("unsupported segment", 3, 9, [1, 129, 0, 65, 0, 11, 0])
        self.in_section("unsupported segment", 6, 11, [1, 255, 255, 255, 255, 15, 65, 0, 11, 0])
        self.in_section("invalid constant", 2, 9, [1, 0, 1, 0, 11, 0])
        self.in_section("invalid constant", 3, 9, [1, 2, 0, 1, 0, 11, 0, 0])
        self.in_section("missing constant end", 4, 9, [1, 0, 65, 0, 0, 0])
        self.in_section("missing constant end", 5, 11, [1, 2, 0, 35, 0, 0, 0])
        for byte in (1, 2, 112, 128):
            self.in_section("invalid segment kind", 6, 9, [1, 2, 0, 65, 0, 11, byte, 0])

    def test_custom_sections(self):
        self.in_section("name too long", 1, 0, [61] + [97] * 61)
        self.in_section("invalid name character", 2, 0, [2, 97, 37])
        self.in_section("unexpected end", 0, 0, [])
        self.in_section("unexpected end", 2, 0, [2, 97])

    def test_code(self):
        front = [[3, 2, 1, 0]]
        self.in_section("unknown instruction", 3, 10, [1, 3, 0, 5, 11], front)
        self.in_section("unknown instruction", 4, 10, [1, 4, 0, 1, 6, 11], front)
        self.in_section("alignment too great", 5, 10, [1, 6, 0, 40, 32, 0, 11, 11], front)
        deep = [0] + [2, 64] * 60 + [3, 64] + [11] * 62
        data = file_of([3, 2, 1, 0], [10, 189, 1, 1, 185, 1] + deep)
        self.assertEqual(len(deep), 185)
        self.fault("nesting too deep", len(data) - len(deep) + 121, data)

    def test_cut_at_each_place(self):
        ends = [8]
        for row in FULL_SECTIONS:
            ends.append(ends[-1] + len(row))
        for size in range(SIZE):
            data = FULL_FILE[:size]
            if size not in ends:
                self.fault("unexpected end", size, data)
            elif ends.index(size) in range(3, 11):
                self.fault("function count mismatch", size, data)
            else:
                decode(data)


class Sizes(unittest.TestCase):
    def fault(self, reason, place, data):
        decode_fault(self, reason, place, decode, data)

    def test_bytes_left(self):
        self.fault("bytes left", 11, HEAD + [1, 2, 0, 0])
        self.fault("bytes left", 11, HEAD + [8, 2, 0, 11])
        self.fault("bytes left", 11, HEAD + [12, 3, 0, 11, 11])
        self.fault("bytes left", 18, HEAD + [3, 2, 1, 0] + [10, 6, 1, 3, 0, 11, 11, 11])
        self.fault("bytes left", 18, HEAD + [3, 2, 1, 0] + [10, 5, 1, 3, 0, 11, 1])
        # Section 10 itself has a byte more than its function.
        self.fault("bytes left", 18, HEAD + [3, 2, 1, 0] + [10, 5, 1, 2, 0, 11, 11])

    def test_content_ends_too_early(self):
        self.fault("unexpected end", 10, HEAD + [1, 0, 0])
        self.fault("unexpected end", 12, HEAD + [1, 2, 1, 96, 0, 0])
        self.fault("unexpected end", 10, HEAD + [8, 0, 5])
        self.fault("unexpected end", 17, HEAD + [3, 2, 1, 0] + [10, 5, 1, 1, 0, 11, 11])
        self.fault("unexpected end", 17, HEAD + [3, 2, 1, 0] + [10, 3, 1, 2, 0, 11])

    def test_size_reaches_behind_the_file(self):
        self.fault("unexpected end", 11, HEAD + [1, 2, 0])
        self.fault("unexpected end", 11, HEAD + [8, 5, 0])
        self.fault("unexpected end", 10, HEAD + [1, 255])
        self.fault("unexpected end", 9, HEAD + [1])
        self.fault("unexpected end", 14, HEAD + [0, 9, 1, 97, 1, 1])
        self.fault("unexpected end", 15, HEAD + [1, 255, 255, 255, 255, 15, 0])

    def test_function_reaches_behind_its_section(self):
        front = HEAD + [3, 2, 1, 0]
        self.fault("unexpected end", 18, front + [10, 4, 1, 3, 0, 11])
        # Behind the section the file goes on, but not for the function.
        self.fault("unexpected end", 18, front + [10, 4, 1, 9, 0, 11] + custom("a") + custom("b"))

    def test_faults_inside_come_first(self):
        self.fault("invalid signature", 11, HEAD + [1, 99, 1, 95])
        self.fault("invalid limits", 11, HEAD + [5, 9, 1, 7, 0])
        self.fault("unknown instruction", 17, HEAD + [3, 2, 1, 0] + [10, 9, 1, 9, 0, 6])

    def test_bytes_left_come_before_the_end_around(self):
        self.fault("bytes left", 11, HEAD + [1, 9, 0, 0])
        self.fault("bytes left", 11, HEAD + [8, 100, 0, 1, 2])
        self.fault("bytes left", 18, HEAD + [3, 2, 1, 0] + [10, 5, 1, 9, 0, 11, 7])

    def test_size_too_large(self):
        self.fault("number too large", 13, HEAD + [1, 255, 255, 255, 255, 16, 0])
        self.fault("number too long", 13, HEAD + [1, 128, 128, 128, 128, 128, 0])


class Counts(unittest.TestCase):
    def fault(self, reason, place, data):
        decode_fault(self, reason, place, decode, data)

    def test_functions(self):
        self.fault("function count mismatch", 15, HEAD + [3, 2, 1, 0] + [10, 1, 0])
        self.fault("function count mismatch", 15, HEAD + [3, 2, 1, 0] + [10, 7, 2, 2, 0, 11, 2, 0, 11])
        self.fault("function count mismatch", 16, HEAD + [3, 2, 1, 0] + [10, 5, 130, 0, 2, 0, 11])
        # The number is checked before the items are read.
        self.fault("function count mismatch", 15, HEAD + [3, 2, 1, 0] + [10, 2, 2, 255])
        self.fault("function count mismatch", 19, HEAD + [3, 2, 1, 0] + [10, 5, 255, 255, 255, 255, 15])

    def test_functions_without_section_3(self):
        self.fault("function count mismatch", 11, HEAD + [10, 4, 1, 2, 0, 11])
        decode(HEAD + [10, 1, 0])

    def test_functions_without_section_10(self):
        self.fault("function count mismatch", 12, HEAD + [3, 2, 1, 0])
        self.fault("function count mismatch", 15, HEAD + [3, 2, 1, 0] + [0, 1, 0])
        self.fault("function count mismatch", 18, HEAD + [3, 2, 1, 0] + [7, 1, 0] + [11, 1, 0])
        decode(HEAD + [3, 1, 0])

    def test_segments(self):
        segment = [0, 65, 0, 11, 0]
        self.fault("data count mismatch", 14, HEAD + [12, 1, 1] + [11, 1, 0])
        self.fault("data count mismatch", 14, HEAD + [12, 1, 0] + section(11, [1] + segment))
        self.fault("data count mismatch", 14, HEAD + [12, 1, 1] + section(11, [2] + segment + segment))
        self.fault("data count mismatch", 15, HEAD + [12, 1, 1] + section(11, [130, 0, 9]))
        self.assertEqual(len(decode(HEAD + [12, 1, 2] + section(11, [2] + segment + segment)).memory_segments), 2)
        self.assertEqual(len(decode(HEAD + section(11, [2] + segment + segment)).memory_segments), 2)

    def test_the_count_of_segments_is_not_that_of_functions(self):
        segment = [0, 65, 0, 11, 0]
        decode(HEAD + [12, 1, 1] + [10, 1, 0] + section(11, [1] + segment))
        rows = [3, 2, 1, 0] + [12, 1, 2] + [10, 4, 1, 2, 0, 11]
        decode(HEAD + rows + section(11, [2] + segment + segment))
        self.fault("data count mismatch", 24, HEAD + rows + section(11, [1] + segment))

    def test_segments_without_section_11(self):
        self.fault("data count mismatch", 11, HEAD + [12, 1, 1])
        self.fault("data count mismatch", 14, HEAD + [12, 1, 3] + [10, 1, 0])
        decode(HEAD + [12, 1, 0])

    def test_both_are_missing(self):
        self.fault("function count mismatch", 15, HEAD + [3, 2, 1, 0] + [12, 1, 1])
        self.fault("data count mismatch", 21, HEAD + [3, 2, 1, 0] + [12, 1, 1] + [10, 4, 1, 2, 0, 11])

    def test_locals(self):
        for groups, after in (([1, 233, 7, 127], 4), ([2, 231, 7, 127, 2, 126], 6), ([1, 255, 255, 255, 255, 15, 126], 7),
                              ([3, 255, 255, 255, 255, 15, 126, 0, 127, 1, 127], 11)):
            content = groups + [11]
            data = HEAD + [3, 2, 1, 0] + section(10, [1, len(content)] + content)
            self.fault("too many locals", 16 + after, data)
            # Found before the code is read.
            content = groups + [6]
            data = HEAD + [3, 2, 1, 0] + section(10, [1, len(content)] + content)
            self.fault("too many locals", 16 + after, data)

    def test_faults_inside_of_the_list_of_locals_come_first(self):
        content = [2, 233, 7, 127, 1, 0, 11]
        self.fault("invalid kind", 21, HEAD + [3, 2, 1, 0] + section(10, [1, len(content)] + content))

    def test_1000_locals_in_each_function(self):
        content = [2, 232, 7, 127, 0, 126, 11]
        body = [len(content)] + content
        module = decode(HEAD + [3, 3, 2, 0, 0] + section(10, [2] + body + body))
        self.assertEqual([row[1] for row in module.functions], [("i32",) * 1000] * 2)


class Changed(unittest.TestCase):
    """Point 219 and the kinds of what decode may raise, for files that differ from a right one in one byte."""

    def check(self, data):
        try:
            module = decode(data)
        except DecodeError as fault:
            self.assertIsInstance(fault.reason, str)
            self.assertTrue(0 <= fault.place <= len(data))
            return False
        written = encode(module)
        self.assertLessEqual(len(written), len(data))
        self.assertEqual(vars(decode(written)), vars(module))
        return True

    def test_one_byte_differs(self):
        read = 0
        for at in range(len(FULL_FILE)):
            for byte in (0, 1, 2, 3, 5, 11, 64, 126, 127, 128, 255, FULL_FILE[at] - 1, FULL_FILE[at] + 1):
                if 0 <= byte <= 255:
                    read += self.check(FULL_FILE[:at] + [byte] + FULL_FILE[at + 1:])
        self.assertGreater(read, 300)

    def test_one_byte_is_missing_or_more(self):
        for at in range(len(FULL_FILE)):
            self.check(FULL_FILE[:at] + FULL_FILE[at + 1:])
            for byte in (0, 1, 11, 128):
                self.check(FULL_FILE[:at] + [byte] + FULL_FILE[at:])


if __name__ == "__main__":
    unittest.main()

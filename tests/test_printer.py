import copy
import random
import unittest

from random_modules import random_module
from support import ACCESS_OPCODES, nested
from wasmhost.errors import LimitReached
from wasmhost.modules import Module, equal
from wasmhost.numbers import INSTRUCTIONS
from wasmhost.text.modules import parse
from wasmhost.text.printer import print_module, print_string

A, B = "i32", "i64"

FIELDS_MODULE = Module(
    signatures=(((), ()), ((A,), ()), ((), (B, A)), ((A, B, B), (A,))),
    imports=(("m", "f", "func", 3), ("", "a b", "table", (0, None)), ("\"", "\\", "table", (1, 4294967295)),
             ("m", "m", "memory", (2, None)), ("m", "m", "memory", (2, 1)), ("m", "g", "global", (A, False)),
             ("m", "g", "global", (B, True)), ("m", "x", "tag", 1)),
    functions=((0, (), ()), (1, (A, B, A), ()), (2, (B,), (("nop",),)), (4294967295, (), (("nop",), ("drop",)))),
    tables=((0, None), (5, 6)),
    memories=((1, None), (3, 3)),
    tags=(0, 77),
    variables=((A, False, ("i32.const", -2147483648)), (B, True, ("i64.const", 9223372036854775807)),
               (B, False, ("global.get", 3))),
    exports=(("", "func", 0), ("t", "table", 1), ("m", "memory", 2), ("g g", "global", 3), ("~", "tag", 4294967295)),
    start=9,
    table_segments=((0, ("i32.const", 0), ()), (1, ("global.get", 2), (3, 0, 3))),
    memory_segments=((0, ("i32.const", -1), ()), (2, ("i64.const", 5), (72, 34, 10, 255))),
)

FIELDS_TEXT = r"""(module
  (type (func))
  (type (func (param i32)))
  (type (func (result i64 i32)))
  (type (func (param i32 i64 i64) (result i32)))
  (import "m" "f" (func (type 3)))
  (import "" "a b" (table 0 funcref))
  (import "\22" "\5c" (table 1 4294967295 funcref))
  (import "m" "m" (memory 2))
  (import "m" "m" (memory 2 1))
  (import "m" "g" (global i32))
  (import "m" "g" (global (mut i64)))
  (import "m" "x" (tag (type 1)))
  (func (type 0))
  (func (type 1) (local i32 i64 i32))
  (func (type 2) (local i64)
    nop)
  (func (type 4294967295)
    nop
    drop)
  (table 0 funcref)
  (table 5 6 funcref)
  (memory 1)
  (memory 3 3)
  (tag (type 0))
  (tag (type 77))
  (global i32 (i32.const -2147483648))
  (global (mut i64) (i64.const 9223372036854775807))
  (global i64 (global.get 3))
  (export "" (func 0))
  (export "t" (table 1))
  (export "m" (memory 2))
  (export "g g" (global 3))
  (export "~" (tag 4294967295))
  (start 9)
  (elem (i32.const 0) func)
  (elem (table 1) (global.get 2) func 3 0 3)
  (data (i32.const -1) "")
  (data (memory 2) (i64.const 5) "H\22\0a\ff"))"""

# Instructions and the lines that they print as, in the body of a function.
INSTRUCTIONS_AND_LINES = [
    (("nop",), "    nop\n"),
    (("unreachable",), "    unreachable\n"),
    (("drop",), "    drop\n"),
    (("select",), "    select\n"),
    (("return",), "    return\n"),
    (("memory.size",), "    memory.size\n"),
    (("memory.grow",), "    memory.grow\n"),
    (("memory.fill",), "    memory.fill\n"),
    (("memory.copy",), "    memory.copy\n"),
    (("i32.const", -1), "    i32.const -1\n"),
    (("i32.const", 0), "    i32.const 0\n"),
    (("i32.const", 2147483647), "    i32.const 2147483647\n"),
    (("i64.const", -9223372036854775808), "    i64.const -9223372036854775808\n"),
    (("local.get", 0), "    local.get 0\n"),
    (("local.set", 10), "    local.set 10\n"),
    (("local.tee", 4294967295), "    local.tee 4294967295\n"),
    (("global.get", 1), "    global.get 1\n"),
    (("global.set", 2), "    global.set 2\n"),
    (("br", 0), "    br 0\n"),
    (("br_if", 61), "    br_if 61\n"),
    (("br_table", (), 7), "    br_table 7\n"),
    (("br_table", (1, 2, 1), 0), "    br_table 1 2 1 0\n"),
    (("call", 5), "    call 5\n"),
    (("call_indirect", 3, 0), "    call_indirect 0 (type 3)\n"),
    (("call_indirect", 0, 3), "    call_indirect 3 (type 0)\n"),
    (("throw", 4), "    throw 4\n"),
    (("block", None, ()), "    block\n    end\n"),
    (("block", A, (("nop",),)), "    block (result i32)\n      nop\n    end\n"),
    (("loop", B, ()), "    loop (result i64)\n    end\n"),
    (("loop", 0, (("nop",), ("drop",))), "    loop (type 0)\n      nop\n      drop\n    end\n"),
    (("if", None, (), ()), "    if\n    end\n"),
    (("if", 7, (("nop",),), ()), "    if (type 7)\n      nop\n    end\n"),
    (("if", A, (), (("nop",),)), "    if (result i32)\n    else\n      nop\n    end\n"),
    (("if", None, (("nop",),), (("drop",), ("select",))), "    if\n      nop\n    else\n      drop\n      select\n    end\n"),
    (("try_table", None, (), ()), "    try_table\n    end\n"),
    (("try_table", B, ((0, 1), (None, 2), (3, 0)), (("nop",),)),
     "    try_table (result i64) (catch 0 1) (catch_all 2) (catch 3 0)\n      nop\n    end\n"),
    (("try_table", 2, ((None, 0),), ()), "    try_table (type 2) (catch_all 0)\n    end\n"),
    (("block", None, (("loop", None, (("if", None, (("try_table", None, (), (("nop",),)),), (("nop",),)), ("drop",))),)),
     "    block\n      loop\n        if\n          try_table\n            nop\n          end\n        else\n          nop\n"
     "        end\n        drop\n      end\n    end\n"),
] + [((name,), "    " + name + "\n") for name in INSTRUCTIONS]

ACCESS_LINES = (
    # The exponent is the usual one plus this number, if there is such an exponent.
    (0, 0, ""), (0, 5, " offset=5"), (0, 4294967295, " offset=4294967295"), (-1, 0, " align={}"), (1, 3, " offset=3 align={}"),
    (28, 0, " align={}"),
)


class Printing(unittest.TestCase):
    def both_ways(self, module):
        text = print_module(module)
        found = parse(text)
        self.assertTrue(equal(found, module), text)
        self.assertEqual(print_module(found), text)


class Whole(Printing):
    def test_each_field(self):
        self.assertEqual(print_module(FIELDS_MODULE), FIELDS_TEXT)
        self.both_ways(FIELDS_MODULE)

    def test_each_instruction(self):
        body = tuple(instruction for instruction, _ in INSTRUCTIONS_AND_LINES)
        lines = "".join(text for _, text in INSTRUCTIONS_AND_LINES)
        module = Module(functions=((0, (), body), (1, (A,), body)))
        self.assertEqual(print_module(module), "(module\n  (func (type 0)\n" + lines[:-1] + ")\n  (func (type 1) (local i32)\n"
                         + lines[:-1] + "))")
        self.both_ways(module)

    def test_each_instruction_alone(self):
        for instruction, lines in INSTRUCTIONS_AND_LINES:
            module = Module(functions=((0, (), (instruction,)),))
            self.assertEqual(print_module(module), "(module\n  (func (type 0)\n" + lines[:-1] + "))")
            self.both_ways(module)

    def test_loads_and_stores(self):
        for _, name in ACCESS_OPCODES:
            digits = "".join(letter for letter in name[4:] if letter.isdigit())
            usual = {8: 0, 16: 1, 32: 2, 64: 3}[int(digits or name[1:3])]
            for more, offset, text in ACCESS_LINES:
                exponent = usual + more
                if exponent >= 0:
                    module = Module(functions=((0, (), ((name, exponent, offset),)),))
                    self.assertEqual(print_module(module), "(module\n  (func (type 0)\n    " + name
                                     + text.format(2 ** exponent) + "))")
                    self.both_ways(module)

    def test_without_fields(self):
        self.assertEqual(print_module(Module()), "(module)")
        self.both_ways(Module())

    def test_one_field(self):
        self.assertEqual(print_module(Module(start=0)), "(module\n  (start 0))")
        self.assertEqual(print_module(Module(memories=((0, 0),))), "(module\n  (memory 0 0))")
        self.assertEqual(print_module(Module(functions=((3, (), ()),))), "(module\n  (func (type 3)))")

    def test_sixty_blocks(self):
        for name in ("block", "loop", "if", "try_table"):
            module = Module(functions=((0, (), nested(60, name)),))
            lines = print_module(module).split("\n")
            self.assertEqual(lines[2:62], ["    " + "  " * depth + name for depth in range(60)])
            self.assertEqual(lines[62:121], ["    " + "  " * depth + "end" for depth in range(59, 0, -1)])
            self.assertEqual(lines[121:], ["    end))"])
            self.both_ways(module)

    def test_the_module_stays(self):
        before = copy.deepcopy(vars(FIELDS_MODULE))
        print_module(FIELDS_MODULE)
        self.assertEqual(vars(FIELDS_MODULE), before)

    def test_random_modules(self):
        """Indexes and labels of these modules may name nothing."""
        choices = random.Random(5)
        for _ in range(300):
            self.both_ways(random_module(choices))


class Blanks(Printing):
    def test_blanks_and_comments_do_not_change_the_module(self):
        words = FIELDS_TEXT.replace("(", " ( ").replace(")", " ) ").split(" ")
        # The strings of this module have no parentheses.
        for between in ("\n", "\t", "  ", " (; ) \" (;;) ;) ", " ;; ( \" ;)\n", "\n\n\t (;;)"):
            self.assertTrue(equal(parse(between.join(words).replace("a" + between + "b", "a b").replace(
                "g" + between + "g", "g g")), FIELDS_MODULE), between)


class Strings(unittest.TestCase):
    def test_each_byte(self):
        for byte in range(256):
            expected = "\\{:02x}".format(byte)
            if 32 <= byte <= 126 and byte not in (34, 37, 92):
                expected = chr(byte)
            self.assertEqual(print_string((byte,)), '"' + expected + '"')
            self.assertEqual(print_string([65, byte, 66]), '"A' + expected + 'B"')

    def test_no_bytes(self):
        self.assertEqual((print_string(()), print_string([])), ('""', '""'))

    def test_the_argument_stays(self):
        data = [1, 2, 34]
        print_string(data)
        self.assertEqual(data, [1, 2, 34])

    def test_strings_are_read_back(self):
        data = tuple(range(256))
        module = parse("(module (data (i32.const 0) " + print_string(data) + "))")
        self.assertEqual(module.memory_segments[0][2], data)


class Limit(unittest.TestCase):
    def module_with(self, count):
        """A module whose text has so many characters."""
        return Module(memory_segments=((0, ("i32.const", 0), (97,) * (count - len('(module\n  (data (i32.const 0) ""))'))),))

    def test_longest_text(self):
        module = self.module_with(20000)
        text = print_module(module)
        self.assertEqual(len(text), 20000)
        self.assertTrue(equal(parse(text), module))
        for longer in (self.module_with(20001), self.module_with(50000)):
            with self.assertRaises(LimitReached) as caught:
                print_module(longer)
            self.assertEqual(caught.exception.what, "text")
        with self.assertRaises(LimitReached) as caught:
            parse(text.replace("aa", "aaa", 1))
        self.assertEqual(caught.exception.what, "text")

    def test_code_counts_too(self):
        line = "\n    nop"
        front = "(module\n  (func (type 0)))"
        count = (20000 - len(front)) // len(line)
        self.assertEqual(len(print_module(Module(functions=((0, (), (("nop",),) * count),)))), len(front) + count * len(line))
        with self.assertRaises(LimitReached):
            print_module(Module(functions=((0, (), (("nop",),) * (count + 1)),)))


if __name__ == "__main__":
    unittest.main()

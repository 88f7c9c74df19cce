import unittest

from support import ACCESS_OPCODES, is_all_tuples, marked, parse_fault
from wasmhost.numbers import INSTRUCTIONS
from wasmhost.text.modules import parse

A, B = "i32", "i64"

# What the identifiers in the bodies of these tests can mean.
FIELDS = """
(type $t0 (func)) (type $t1 (func (param i32) (result i32))) (type $t2 (func (param $x i64) (result i32 i64)))
(import "m" "f" (func $f0 (type 0))) (table $a0 1 funcref) (table $a1 1 funcref) (memory 1)
(global $g0 i32 (i32.const 0)) (global $g1 (mut i64) (i64.const 0)) (tag $e0 (type 0)) (tag $e1 (type 0))
"""


class Code(unittest.TestCase):
    def module(self, code, head="(type 0)"):
        return parse("(module " + FIELDS + "(func $f1 (type 0)) (func $f2 " + head + " " + code + "))")

    def gives(self, code, body, head="(type 0)"):
        found = self.module(code, head).functions[1][2]
        self.assertEqual(found, tuple(body), code)
        self.assertTrue(is_all_tuples(found))

    def fault(self, reason, code, head="(type 0)"):
        """The mark @ stands in front of the token that is the fault."""
        text, line, column = marked("(module " + FIELDS + "(func $f1 (type 0)) (func $f2 " + head + "\n " + code + "))")
        with self.subTest(code):
            parse_fault(self, reason, line, column, parse, text)


class Plain(Code):
    def test_instructions_with_nothing_behind(self):
        names = ("nop", "unreachable", "drop", "select", "return", "memory.size", "memory.grow", "memory.fill",
                 "memory.copy") + INSTRUCTIONS
        for name in names:
            self.gives(name, ((name,),))
            self.fault(") expected", name + ' @"a"')
            self.fault("unknown instruction", name + " @0")
        self.gives(" ".join(names), [(name,) for name in names])

    def test_an_empty_body(self):
        self.gives("", ())

    def test_comments_between(self):
        self.gives("nop(;;)drop ;; nop\n(;nop;)\tselect", (("nop",), ("drop",), ("select",)))

    def test_unknown_instructions(self):
        for word in ("foo", "i32", "i32.konst", "I32.add", "i32.extend32_s", "i64.wrap_i64", "i64.extend_i64_s", "local.Get", "0",
                     "$f1", "then", "catch", "param", "f32.add", "get_local", "memory.init", "i32.load32_s", "call_ref", "i32.add_",
                     "offset=1", "align=1", "table.get", "ref.null", "func", "type", "i32.", "nopp", "$", "=", "return_call"):
            self.fault("unknown instruction", "nop @" + word)

    def test_where_code_ends(self):
        self.fault(") expected", "nop @(nop)")
        self.fault(") expected", 'nop @"nop"')
        self.fault(") expected", "nop @end")
        self.fault(") expected", "nop @else")
        self.fault(") expected", "@end")
        self.fault(") expected", "@(foo)")
        self.fault(") expected", "nop @(local i32)")
        self.fault(") expected", "i32.const 1 drop @(i32.const 1)")


class Constants(Code):
    def test_ranges(self):
        for name, bits in (("i32.const", 32), ("i64.const", 64)):
            half, whole = 2 ** (bits - 1), 2 ** bits
            for number, value in ((0, 0), (1, 1), (-1, -1), (half - 1, half - 1), (half, -half), (half + 1, 1 - half),
                                  (whole - 1, -1), (-half, -half), (1 - half, 1 - half)):
                for form in ("{}", "{:#x}") if number < 0 else ("{}", "+{}", "{:#x}", "+{:#x}", "000{}"):
                    self.gives(name + " " + form.format(number), ((name, value),))
            for number in (whole, whole + 1, -half - 1, -whole, whole * whole):
                for form in ("{}", "{:#x}"):
                    self.fault("constant too large", name + " @" + form.format(number))
            self.fault("constant too large", name + " @" + "9" * 200)
            self.fault("constant too large", name + " @-" + "9" * 199)
            self.gives(name + " " + "0" * 199 + "1", ((name, 1),))

    def test_forms(self):
        for word, value in (("-0", 0), ("+0", 0), ("-0x0", 0), ("+0xFf", 255), ("-0x80000000", -2147483648), ("0xffffffff", -1),
                            ("007", 7), ("-007", -7), ("0x00000000000000000001", 1)):
            self.gives("i32.const " + word, (("i32.const", value),))

    def test_other_tokens(self):
        for token in ("x", "$x", "+", "-", "--1", "+-1", "1-", "0x", "-0x", "0X1", "1_0", "1.0", '"1"', "(1)", "i32.add", "1e3",
                      "0x1p1", "12a", "- 1"):
            for name in ("i32.const", "i64.const"):
                self.fault("constant expected", name + " @" + token)
        self.fault("constant expected", "i32.const @")


class Indexes(Code):
    SORTS = (
        (("global.get", "global.set"), {"$g0": 0, "$g1": 1}), (("call",), {"$f0": 0, "$f1": 1, "$f2": 2}),
        (("throw",), {"$e0": 0, "$e1": 1}), (("local.get", "local.set", "local.tee"), {"$x": 0, "$y": 1, "$z": 3}),
    )

    HEAD = "(param $x i32) (param $y i64) (local i32) (local $z i32)"

    def test_numbers(self):
        for names in [row[0] for row in self.SORTS] + [("br", "br_if")]:
            for name in names:
                for word, number in (("0", 0), ("7", 7), ("0x1F", 31), ("4294967295", 4294967295)):
                    self.gives(name + " " + word, ((name, number),))

    def test_identifiers(self):
        for names, known in self.SORTS:
            for name in names:
                for identifier, index in known.items():
                    self.gives(name + " " + identifier, ((name, index),), self.HEAD)

    def test_faults(self):
        for names, known in self.SORTS + ((("br", "br_if"), {}),):
            for name in names:
                for token in ("-1", "4294967296", "0x", "$", "nop", '"0"', "(0)", "", "+1"):
                    self.fault("index expected", name + " @" + token, self.HEAD)
                for identifier in ("$f2", "$g0", "$e0", "$x", "$a0", "$t0", "$X", "$g", "$m"):
                    if identifier not in known:
                        self.fault("unknown identifier", name + " @" + identifier, self.HEAD)

    def test_the_first_local_that_has_it(self):
        self.gives("local.get $x", (("local.get", 1),), "(param i32) (param $x i32) (param $x i64) (local $x i64)")
        self.gives("local.get $x", (("local.get", 2),), "(param i32) (local i32) (local $x i64) (local $x i64)")

    def test_locals_of_another_function(self):
        text, line, column = marked("(module (func (param $x i32) (local $y i32)) (func local.get @$x))")
        parse_fault(self, "unknown identifier", line, column, parse, text)


class Tables(Code):
    def test_br_table(self):
        self.gives("br_table 0", (("br_table", (), 0),))
        self.gives("br_table 3 0x2 1 nop", (("br_table", (3, 2), 1), ("nop",)))
        self.gives("block $a block $b br_table $a $b 2 $a end end",
                   (("block", None, (("block", None, (("br_table", (1, 0, 2), 1),)),)),))
        self.fault("index expected", "br_table @")
        self.fault("index expected", "br_table @nop")
        self.fault("index expected", "br_table @(0)")
        self.fault("index expected", "br_table @4294967296")
        self.fault("unknown identifier", "br_table @$a")
        self.fault("unknown identifier", "br_table 0 @$a")
        self.fault("unknown instruction", "br_table 0 @4294967296")
        self.fault("unknown instruction", "br_table 0 @-1")
        self.fault("unknown instruction", "br_table 0 @$")
        self.fault(") expected", 'br_table 0 @"1"')

    def test_call_indirect(self):
        for text, index, table in (("(type 1)", 1, 0), ("1 (type 0)", 0, 1), ("$a1 (type $t2)", 2, 1), ("", 0, 0),
                                   ("(param i32) (result i32)", 1, 0), ("$a1 (param) (result)", 0, 1), ("4294967295", 0, 4294967295),
                                   ("0x1 (type $t1) (param $n i32) (result i32)", 1, 1), ("(type 99)", 99, 0),
                                   ("(param $x i64) (result i32) (result i64)", 2, 0)):
            self.gives("call_indirect " + text + " nop", (("call_indirect", index, table), ("nop",)))
        self.fault("unknown identifier", "call_indirect @$t0 (type 0)")
        self.fault("unknown identifier", "call_indirect 0 (type @$a0)")
        self.fault("index expected", "call_indirect (type @)")
        self.fault("unknown instruction", "call_indirect @4294967296")
        self.fault(") expected", "call_indirect (type 0 @1)")
        self.fault(") expected", "call_indirect @(foo)")
        self.fault(") expected", "call_indirect (result i32) @(param i32)")
        self.fault(") expected", "call_indirect (type 0) @(type 0)")
        self.fault(") expected", "call_indirect (type 0) @(local i32)")
        self.fault("kind expected", "call_indirect (param @f32)")
        self.fault("signature mismatch", "call_indirect (type 1) (param i32) @nop")
        self.fault("signature mismatch", "call_indirect (type 3) (param i32) (result i64) @nop")

    def test_identifiers_of_parameters_have_no_meaning(self):
        self.fault("unknown identifier", "call_indirect (param $n i32) (result i32) local.get @$n")
        self.gives("call_indirect (param $n i64) (result i32 i64) local.get $n", (("call_indirect", 2, 0), ("local.get", 1)),
                   "(param i64) (param $n i32)")


class Accesses(Code):
    def width(self, name):
        digits = "".join(letter for letter in name[4:] if letter.isdigit())
        return int(digits or name[1:3]) // 8

    def test_forms(self):
        for _, name in ACCESS_OPCODES:
            usual = {1: 0, 2: 1, 4: 2, 8: 3}[self.width(name)]
            for text, exponent, offset in (
                    ("", usual, 0), ("offset=0", usual, 0), ("offset=4294967295", usual, 4294967295), ("offset=0x1F", usual, 31),
                    ("align=1", 0, 0), ("align=2", 1, 0), ("align=0x8", 3, 0), ("align=016", 4, 0), ("align=2147483648", 31, 0),
                    ("offset=5 align=4", 2, 5), ("offset=0x0 align=0x80000000", 31, 0), ("offset=1(;;)align=1", 0, 1)):
                self.gives(name + " " + text + " nop", ((name, exponent, offset), ("nop",)))

    def test_faults(self):
        for name in ("i32.load", "i64.store16"):
            for word in ("offset=", "offset=x", "offset=-1", "offset=+1", "offset=4294967296", "offset=0x", "offset=$x", "offset=1_0",
                         "align=", "align=x", "align=-1", "align=4294967296", "align=0x100000000", "align==1"):
                self.fault("number expected", name + " @" + word)
                if word.startswith("align"):
                    self.fault("number expected", name + " offset=1 @" + word)
            for word in ("align=0", "align=3", "align=5", "align=6", "align=12", "align=4294967295", "align=0x7fffffff", "align=00"):
                self.fault("power of two expected", name + " @" + word)
                self.fault("power of two expected", name + "\n offset=1\n @" + word)
            self.fault("unknown instruction", name + " align=1 @offset=1")
            self.fault("unknown instruction", name + " offset=1 @offset=1")
            self.fault("unknown instruction", name + " align=1 @align=1")
            self.fault("unknown instruction", name + " @offset")
            self.fault("unknown instruction", name + " @Offset=1")
            self.fault("unknown instruction", name + " @1")
            self.fault("unknown instruction", name + " offset=1 @=1")
            self.fault(") expected", name + ' @"offset=1"')


class Blocks(Code):
    def test_each_block(self):
        for name in ("block", "loop"):
            self.gives(name + " end", ((name, None, ()),))
            self.gives(name + " $l nop end $l drop", ((name, None, (("nop",),)), ("drop",)))
        self.gives("if end", (("if", None, (), ()),))
        self.gives("if else end", (("if", None, (), ()),))
        self.gives("if nop end", (("if", None, (("nop",),), ()),))
        self.gives("if else nop end", (("if", None, (), (("nop",),)),))
        self.gives("if $l nop else $l drop select end $l nop",
                   (("if", None, (("nop",),), (("drop",), ("select",))), ("nop",)))
        self.gives("try_table end", (("try_table", None, (), ()),))
        self.gives("try_table $l (catch_all 0) nop end $l", (("try_table", None, ((None, 0),), (("nop",),)),))

    def test_shapes(self):
        for text, shape in (("", None), ("(param)", None), ("(result)", None), ("(param) (param) (result) (result)", None),
                            ("(result i32)", A), ("(param) (result i64)", B), ("(result i64) (result)", B), ("(type 0)", 0),
                            ("(type $t0)", 0), ("(type $t0) (param)", 0), ("(type 1) (param $n i32) (result i32)", 1),
                            ("(param i32) (result i32)", 1), ("(param $x i64) (result i32 i64)", 2), ("(type 77)", 77),
                            ("(param i32)", 3), ("(result i32 i32)", 3), ("(result i32) (result i64)", 3)):
            for name in ("block", "loop", "if", "try_table"):
                bodies = {"if": ((), ()), "try_table": ((), ())}.get(name, ((),))
                self.gives(name + " " + text + " end", ((name, shape) + bodies,))
                self.gives(name + " $l " + text + " nop end $l", ((name, shape) + {
                    "if": ((("nop",),), ()), "try_table": ((), (("nop",),))}.get(name, ((("nop",),),)),))

    def test_faults_of_shapes(self):
        for name in ("block", "loop", "if", "try_table"):
            self.fault("signature mismatch", name + " (type 1) (param i32) @end")
            self.fault("signature mismatch", name + " (type 99) (param) @(foo)")
            self.fault("index expected", name + " (type @) end")
            self.fault("unknown identifier", name + " (type @$t9) end")
            self.fault("kind expected", name + " (result @$x) end")
            self.fault("kind expected", name + " (param i32 @f32) end")
            self.fault("end expected", name + " (result i32) @(param i32) end")
            self.fault("end expected", name + " (type 0) @(type 0) end")
            self.fault("end expected", name + " nop @(result i32) end")
            self.fault("end expected", name + " @(foo) end")
            self.fault("unknown instruction", name + " $l @$m end")
            self.fault("unknown instruction", name + " @i32 end")

    def test_catches(self):
        self.gives("block $a try_table $b (result i32) (catch $e1 $a) (catch 7 1) (catch_all 0) (catch_all $a) (catch $e0 4294967295) nop"
                   " end end", (("block", None, (("try_table", A, ((1, 0), (7, 1), (None, 0), (None, 0), (0, 4294967295)),
                                                 (("nop",),)),)),))

    def test_labels_of_catches_count_from_outside(self):
        self.gives("block $a block $l try_table $l (catch_all $l) (catch_all $a) br $l br $a end end end",
                   (("block", None, (("block", None, (("try_table", None, ((None, 0), (None, 1)), (("br", 0), ("br", 2))),)),)),))
        self.fault("unknown identifier", "try_table $l (catch_all @$l) end")

    def test_faults_of_catches(self):
        self.fault("index expected", "try_table (catch @) end")
        self.fault("index expected", "try_table (catch 0 @) end")
        self.fault("index expected", "try_table (catch_all @) end")
        self.fault("index expected", "try_table (catch @(0) 0) end")
        self.fault("unknown identifier", "try_table (catch @$f1 0) end")
        self.fault("unknown identifier", "try_table (catch 0 @$e0) end")
        self.fault(") expected", "try_table (catch 0 0 @0) end")
        self.fault(") expected", "try_table (catch_all 0 @0) end")
        self.fault("end expected", "try_table @(catch_ref 0 0) end")
        self.fault("end expected", "try_table (catch_all 0) @(result i32) end")
        self.fault("end expected", "try_table nop @(catch_all 0) end")
        self.fault("end expected", "block @(catch_all 0) end")
        self.fault(") expected", "try_table end @(catch_all 0)")

    def test_labels(self):
        self.gives("block $a loop $b if $c br $a br $b br $c else br_if $a br_if $c end try_table $d br $d br $a end end end",
                   (("block", None, (("loop", None, (
                       ("if", None, (("br", 2), ("br", 1), ("br", 0)), (("br_if", 2), ("br_if", 0))),
                       ("try_table", None, (), (("br", 0), ("br", 2))))),)),))
        # The innermost block that has the identifier.
        self.gives("block $a block block $a block br $a end end br $a end br $a end",
                   (("block", None, (("block", None, (("block", None, (("block", None, (("br", 1),)),)), ("br", 1))),
                                     ("br", 0))),))
        for code in ("block $a end br @$a", "block $a end block br @$a end", "br @$f2", "br @$f1", "block br @$a end", "br_if @$x",
                     "if $a end br @$a", "loop $b br @$a end"):
            self.fault("unknown identifier", code)

    def test_ends(self):
        for name in ("block", "loop", "try_table"):
            self.fault("end expected", name + " nop @")
            self.fault("end expected", name + " @else end")
            self.fault("end expected", name + " " + name + " end @")
            self.fault("end expected", name + ' @"a" end')
            self.fault(") expected", name + " end @end")
            self.fault(") expected", name + " end @else")
        self.fault("end expected", "if @")
        self.fault("end expected", "if else @")
        self.fault("end expected", "if else @else end")
        self.fault("end expected", "if nop else nop @else nop end")
        self.fault("end expected", "if else @(nop) end")
        self.fault("unknown instruction", "if nop @then end")

    def test_other_identifiers(self):
        for name in ("block", "loop", "if", "try_table"):
            self.fault("other identifier", name + " $a end @$b")
            self.fault("other identifier", name + " end @$a")
            self.fault("other identifier", "block $b " + name + " $a end @$b end")
            self.fault("other identifier", name + " $a nop end @$A")
            self.fault("unknown instruction", name + " $a end @$")
            self.fault("unknown instruction", name + " $a end @a")
            self.fault("unknown instruction", name + " $a end $a @$a")
            self.fault("unknown instruction", name + " $a end @0")
        self.fault("other identifier", "if else @$a end")
        self.fault("other identifier", "if $a else @$b end $c")
        self.fault("other identifier", "if $a else $a end @$b")
        self.fault("unknown instruction", "if $a else $a @$a end")

    def test_sixty_open_blocks(self):
        for name in ("block", "loop", "if", "try_table"):
            text = (name + " ") * 60 + "end " * 60
            depth = 0
            body = self.module(text).functions[1][2]
            while body:
                depth += 1
                body = body[0][2] if name == "if" else body[0][-1]
            self.assertEqual(depth, 60)
            self.fault("nesting too deep", (name + " ") * 60 + "@" + name + " " + "end " * 61)
            self.fault("nesting too deep", (name + " ") * 60 + "@" + name + " (foo)")
            # Blocks beside each other are not open at the same time.
            self.module((name + " ") * 60 + ("end " + name + " ") * 5 + "end " * 60)
        self.module("if else " * 60 + "end " * 60)
        self.fault("nesting too deep", "if else " * 60 + "@block " + "end " * 61)
        self.fault("unknown instruction", "block " * 60 + "@blok")

    def test_each_function_counts_by_itself(self):
        text = "(func " + "block " * 60 + "end " * 60 + ")"
        self.assertEqual(len(parse("(module " + text * 3 + ")").functions), 3)


if __name__ == "__main__":
    unittest.main()

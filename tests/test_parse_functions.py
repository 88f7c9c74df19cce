"""Uses of signatures and the fields of functions."""
import unittest

from support import marked, parse_fault
from wasmhost.text.modules import parse

A, B = "i32", "i64"


class Functions(unittest.TestCase):
    def gives(self, fields, signatures, functions):
        found = parse("(module " + fields + ")")
        self.assertEqual((found.signatures, found.functions), (tuple(signatures), tuple(functions)), fields)

    def fault(self, reason, fields):
        """The mark @ stands in front of the token that is the fault."""
        text, line, column = marked("(module\n  " + fields + ")")
        with self.subTest(fields):
            parse_fault(self, reason, line, column, parse, text)


class Uses(Functions):
    def test_each_form(self):
        given = "(type $a (func)) (type $b (func (param i32) (result i64))) "
        first, second = ((), ()), ((A,), (B,))
        for use, index, added in (
                ("", 0, ()), ("(type 0)", 0, ()), ("(type $b)", 1, ()), ("(type 1)", 1, ()), ("(type 2)", 2, ()),
                ("(type 4294967295)", 4294967295, ()), ("(param)", 0, ()), ("(result)", 0, ()), ("(param) (result) (result)", 0, ()),
                ("(param i32) (result i64)", 1, ()), ("(param $x i32) (result i64)", 1, ()),
                ("(type $b) (param i32) (result i64)", 1, ()), ("(type 1) (param $x i32) (param) (result) (result i64)", 1, ()),
                ("(type 0) (param)", 0, ()), ("(type $a) (result)", 0, ()),
                ("(param i32)", 2, (((A,), ()),)), ("(result i64)", 2, (((), (B,)),)),
                ("(param i32) (param i64 i64) (param $x i32) (result i32) (result i64)", 2, (((A, B, B, A), (A, B)),))):
            self.gives(given + "(func " + use + ")", (first, second) + added, ((index, (), ()),))
            found = parse("(module (tag " + use + ")" + given + ")")
            self.assertEqual((found.tags, found.signatures), ((index,), (first, second) + added))
            for sort in ("func", "tag"):
                found = parse('(module (import "a" "b" (' + sort + " $f " + use + "))" + given + ")")
                self.assertEqual((found.imports, found.signatures), ((("a", "b", sort, index),), (first, second) + added))

    def test_the_first_equal_signature(self):
        self.gives("(type (func)) (type (func (param i32))) (type (func (param i32))) (func (param i32)) (func (type 2))",
                   (((), ()), ((A,), ()), ((A,), ())), ((1, (), ()), (2, (), ())))

    def test_the_order_in_which_signatures_are_added(self):
        text = """(import "a" "b" (func (param i32)))
        (func (result i32) block (result i64) end block (param i64) loop (param i32) (result i64) end end
          call_indirect (param i64) (result i64) block (param i32) end)
        (func (result i64)) (tag (param i64 i64)) (type (func (param i64 i64 i64))) (func (param i64) (result i64))
        (type (func (result i64)))"""
        found = parse("(module " + text + ")")
        self.assertEqual(found.signatures, (
            ((B, B, B), ()), ((), (B,)), ((A,), ()), ((), (A,)), ((B,), ()), ((A,), (B,)), ((B,), (B,)), ((B, B), ())))
        self.assertEqual(found.imports[0][3], 2)
        self.assertEqual(found.functions, (
            (3, (), (("block", B, ()), ("block", 4, (("loop", 5, ()),)), ("call_indirect", 6, 0), ("block", 2, ()))),
            (1, (), ()), (6, (), ())))
        self.assertEqual(found.tags, (7,))

    def test_catches_and_shapes_in_the_order_of_the_text(self):
        found = parse("(module (func (param i32) if (param i64) call_indirect (result i32) else block (result i32 i32) end end))")
        self.assertEqual(found.signatures, (((A,), ()), ((B,), ()), ((), (A,)), ((), (A, A))))

    def test_signatures_of_the_text_come_first(self):
        self.gives("(func (param i64)) (type (func (param i32))) (func (param i32))", (((A,), ()), ((B,), ())),
                   ((1, (), ()), (0, (), ())))

    def test_mismatches(self):
        given = "(type (func (param i32) (result i64))) "
        for use in ("(type 0) (param i32)", "(type 0) (result i64)", "(type 0) (param i64) (result i64)", "(type 0) (param)",
                    "(type 0) (param i32) (result i32)", "(type 0) (param i32 i32) (result i64)", "(type 1) (param)",
                    "(type 1) (result)", "(type 4294967295) (param i32) (result i64)"):
            self.fault("signature mismatch", given + "(func " + use + "@)")
            self.fault("signature mismatch", given + "(func " + use + " @(local i32))")
            self.fault("signature mismatch", given + "(func " + use + " @foo)")
            self.fault("signature mismatch", given + "(tag " + use + "@)")
            self.fault("signature mismatch", given + '(import "a" "b" (func ' + use + " @(foo)))")

    def test_only_signatures_that_are_there_by_then(self):
        self.fault("signature mismatch", "(func (type 0) (param i32) @) (func (param i32))")
        self.gives("(func (param i32)) (func (type 0) (param i32))", (((A,), ()),), ((0, (), ()), (0, (), ())))
        self.gives("(func (type 0) (param i32)) (type (func (param i32)))", (((A,), ()),), ((0, (), ()),))
        self.fault("signature mismatch", "(func block (type 1) (param i32) @end)")
        self.gives("(func (result i32) block (type 0) (result i32) end)", (((), (A,)),), ((0, (), (("block", 0, ()),)),))

    def test_faults(self):
        self.fault("index expected", "(func (type @))")
        self.fault("index expected", "(func (type @-1))")
        self.fault("index expected", "(func (type @(func)))")
        self.fault("index expected", "(func (type @4294967296))")
        self.fault("unknown identifier", "(func $f (type @$f))")
        self.fault(") expected", "(func (type 0 @1))")
        self.fault(") expected", "(func (type 0) @(type 0))")
        self.fault(") expected", "(func (param i32) @(type 0))")
        self.fault(") expected", "(func (result i32) @(param i32))")
        self.fault("kind expected", "(func (param @0))")
        self.fault("kind expected", "(func (param $x @))")
        self.fault("kind expected", "(func (result i32 @$x))")
        self.fault(") expected", "(func (param $x i32 @i64))")
        self.fault("unknown instruction", "(func @param i32)")


class Locals(Functions):
    def test_forms(self):
        for text, kinds in (("", ()), ("(local)", ()), ("(local i32)", (A,)), ("(local i64 i32 i64)", (B, A, B)),
                            ("(local $x i32) (local) (local i64 i64) (local $y i32)", (A, B, B, A))):
            self.gives("(func " + text + " nop)", (((), ()),), ((0, kinds, (("nop",),)),))
            self.gives("(func $f (param i64) (result i32) " + text + " nop)", (((B,), (A,)),), ((0, kinds, (("nop",),)),))

    def test_numbering(self):
        for use, index in (("(param i32 i32)", 2), ("(param i32) (param $p i64)", 2), ("(type $t)", 3), ("(type 0)", 3),
                           ("(type $t) (param i32) (param i64) (param i32)", 3), ("", 0), ("(type 1)", 0), ("(type 5)", 0),
                           ("(type 4294967295)", 0)):
            found = parse("(module (type $t (func (param i32 i64 i32))) (func " + use + " (local $x i32) (local $y i64)"
                          " local.get $x local.set $y))")
            self.assertEqual(found.functions[0][2], (("local.get", index), ("local.set", index + 1)), use)

    def test_a_signature_that_is_added_later(self):
        # The module does not have the signature 0 when the first function is read, but the second one has it.
        text = "(func (type 0) (local $x i32) local.get $x) (func (param i64) (local $x i32) local.get $x)" \
            "(func (type 0) (local $x i32) local.get $x)"
        self.gives(text, (((B,), ()),), ((0, (A,), (("local.get", 0),)), (0, (A,), (("local.get", 1),)),
                                         (0, (A,), (("local.get", 1),))))

    def test_identifiers_of_parameters(self):
        self.gives("(func (param $a i32) (param i32 i64) (param $b i64) (local $c i32) local.get $a local.get $b local.get $c)",
                   (((A, A, B, B), ()),), ((0, (A,), (("local.get", 0), ("local.get", 3), ("local.get", 4))),))
        self.gives("(func (param $a i32) local.get $a)", (((A,), ()),), ((0, (), (("local.get", 0),)),))
        self.gives("(type (func (param i32 i64))) (func (type 0) (param $a i32) (param $b i64) local.get $b)",
                   (((A, B), ()),), ((0, (), (("local.get", 1),)),))
        self.fault("unknown identifier", "(type (func (param $a i32))) (func (type 0) local.get @$a)")
        self.fault("unknown identifier", "(type (func (param $a i32))) (func (type 0) (param i32) local.get @$a)")
        self.fault("unknown identifier", "(func $f (param $a i32) local.get @$f)")

    def test_most_locals(self):
        many = "(local " + "i32 " * 999 + ")"
        self.assertEqual(len(parse("(module (func " + many + "(local $x i64)))").functions[0][1]), 1000)
        for more in ("(local i32 i64)", "(local $x i32) (local $y i32)"):
            self.fault("too many locals", "(func " + many + more + " @nop)")
            self.fault("too many locals", "(func (param i32) " + many + more + " @)")
            self.fault("too many locals", "(func " + many + more + " @(foo))")
        # Parameters do not count.
        self.assertEqual(len(parse("(module (func (param i32 i32) " + many + "))").functions[0][1]), 999)

    def test_faults(self):
        self.fault("kind expected", "(func (local @f32))")
        self.fault("kind expected", "(func (local i32 @$x))")
        self.fault("kind expected", "(func (local $x @))")
        self.fault(") expected", "(func (local $x i32 @i32))")
        self.fault(") expected", "(func (local i32 @(local)))")
        self.fault(") expected", "(func (local i32) @(param i32))")
        self.fault(") expected", "(func (local i32) @(result i32))")
        self.fault(") expected", "(func nop @(local i32))")
        self.fault("unknown instruction", "(func $f @$g)")


if __name__ == "__main__":
    unittest.main()

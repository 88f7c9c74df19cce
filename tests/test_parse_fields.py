import unittest

from support import is_all_tuples, marked, parse_fault
from wasmhost.errors import LimitReached
from wasmhost.modules import Module, equal
from wasmhost.text.modules import parse

A, B = "i32", "i64"

PARTS = ("signatures", "imports", "functions", "tables", "memories", "tags", "variables", "exports", "start",
         "table_segments", "memory_segments")


class Fields(unittest.TestCase):
    def gives(self, fields, **parts):
        """Checks the module that a text with these fields writes."""
        found = parse("(module " + fields + ")")
        expected = Module(**parts)
        for part in PARTS:
            self.assertEqual(getattr(found, part), getattr(expected, part), (fields, part))
        self.assertTrue(equal(found, expected))
        self.assertTrue(all(part == "start" or is_all_tuples(getattr(found, part)) for part in PARTS))

    def fault(self, reason, text):
        """The mark @ stands in front of the token that is the fault; the text is written out whole."""
        text, line, column = marked(text)
        with self.subTest(text):
            parse_fault(self, reason, line, column, parse, text)

    def field_fault(self, reason, fields):
        self.fault(reason, "(module\n " + fields + ")")


class Outside(Fields):
    def test_no_fields(self):
        self.gives("")
        for text in ("(module)", "( module )", "(module $m)", "(;a;)(module;;b\n)\n;;", "\t(module $$ )"):
            self.assertTrue(equal(parse(text), Module()), text)

    def test_attributes_are_tuples(self):
        module = parse("(module)")
        self.assertEqual([getattr(module, part) for part in PARTS], [None if part == "start" else () for part in PARTS])

    def test_opening(self):
        for text in ("@", "@)", "@module", '@"a"', " ;;\n @x", "@module)"):
            self.fault("( expected", text)
        for text in ("(@", "(@)", "(@(", "(@modul", "(@Module)", '(@"module")', "(@$m module)", "( @(module))"):
            self.fault("module expected", text)

    def test_between_fields(self):
        for text in ("(module @x)", "(module $m @$n)", '(module @"a")', "(module (memory 1) @$m)", "(module @$)",
                     "(module (memory 1) @memory 1)", "(module @module)"):
            self.fault(") expected", text)

    def test_end_of_the_text(self):
        for text in ("(module@", "(module $m@", "(module (memory 1)@", "(module (memory 1@", "(module (func (param i32)@",
                     "(module (func (((@", "(module (func)\n(func (@", "(module (func i32.konst @", "(module (type (func) @"):
            self.fault(") expected", text)

    def test_behind_the_module(self):
        for text in ("(module)@)", "(module) @(module)", "(module) @x", '(module)@""', "(module) (;;) @$m"):
            self.fault("text must end", text)

    def test_fields_without_a_word(self):
        for text in ("(module (@))", "(module (@(type)))", '(module (@"type"))', "(module (memory 1) (@) (foo))"):
            self.fault("word expected", text)

    def test_unknown_fields(self):
        for word in ("foo", "$f", "i32", "module", "Func", "locals", "param", "end", "12", "types", "rec", "mut", "$"):
            self.fault("unknown field", "(module (@" + word + "))")
        self.fault("unknown field", "(module (memory 1) (@foo (bar)) (bar))")
        # The first token that must not stand where it stands.
        self.fault("unknown field", "(module (@foo (bar")
        self.fault("word expected", "(module (@(bar")

    def test_greatest_text(self):
        text = "(module (memory 1))"
        longest = text + " " * (20000 - len(text))
        self.assertEqual(parse(longest).memories, ((1, None),))
        for longer in (longest + " ", "," * 20001, longest + "(" * 50000):
            with self.assertRaises(LimitReached) as caught:
                parse(longer)
            self.assertEqual(caught.exception.what, "text")
        self.fault("unexpected character", "@" + "," * 20000)


class Steps(Fields):
    """All faults of an earlier step come before those of a later one."""

    def test_tokens_before_fields(self):
        self.fault("unexpected character", "(foo) @;")
        self.fault("string does not end", '(module (foo) "@')

    def test_fields_before_what_they_contain(self):
        self.fault("unknown field", "(module (memory x) (@foo))")
        self.fault("word expected", "(module (memory x) (@))")
        self.fault("text must end", "(module (memory x)) @x")
        self.fault(") expected", "(module (memory x) @memory)")
        self.fault(") expected", "(module (memory x)@")

    def test_signatures_before_other_fields(self):
        self.fault("kind expected", "(module (memory x) (type (func (param @i33))))")
        self.fault("func expected", "(module (import 1) (func foo) (type (@funk)))")
        self.fault("kind expected", "(module (func foo) (type (func (param @f))) (type 1))")

    def test_other_fields_in_their_order(self):
        self.fault("number expected", "(module (memory @x) (table y))")
        self.fault("unknown instruction", "(module (func @foo) (import 1) (memory x))")
        self.fault("string expected", "(module (export @x) (func foo))")

    def test_collecting_finds_no_faults(self):
        self.fault("unknown instruction", '(module (func @foo) (import "a" "b" (func $)) (table $) (global) (func $f $g))')
        self.fault("unknown instruction", '(module (func @foo) (import) (import "a") (import "a" "b") (import "a" "b" ()))')
        self.fault("unknown instruction", '(module (func @foo) (import "a" "b" (foo $f)) (import "a" "b" func $f))')

    def test_identifiers_are_known_everywhere(self):
        self.gives('(start $b) (func $a call $b call $c) (func $b) (func $c)', start=1, signatures=(((), ()),),
                   functions=((0, (), (("call", 1), ("call", 2))), (0, (), ()), (0, (), ())))
        self.gives('(tag (type $b)) (type $a (func (param i32))) (type $b (func))', tags=(1,),
                   signatures=(((A,), ()), ((), ())))

    def test_identifiers_of_broken_fields(self):
        # The identifier is known although its field has a fault, which comes later.
        self.fault("number expected", "(module (export \"a\" (memory $m)) (memory $m @x))")
        self.fault("import too late", '(module (func call $f) (@import "a" "b" (func $f (foo))))')
        self.fault("unknown identifier", '(module (func call @$f) (import "a" (func $f)))')
        self.fault("unknown identifier", '(module (func call @$f) (import "a" "b" func $f))')
        self.fault("unknown identifier", '(module (func call @$f) (import "a" "b" (foo $f)))')
        self.fault("unknown identifier", '(module (func call @$f) (import "a" "b" (tag $f)))')
        self.fault("unknown identifier", '(module (func call @$f) (data "a" "b" (func $f)))')


class Types(Fields):
    def test_forms(self):
        for text, signature in (
                ("(type (func))", ((), ())), ("(type $t (func))", ((), ())),
                ("(type (func (param)))", ((), ())), ("(type (func (result)))", ((), ())),
                ("(type (func (param i32)))", ((A,), ())), ("(type (func (param i32 i64)))", ((A, B), ())),
                ("(type (func (param $x i64)))", ((B,), ())), ("(type (func (result i64 i32)))", ((), (B, A))),
                ("(type (func (param i32) (param) (param $x i64) (param i64 i32)))", ((A, B, B, A), ())),
                ("(type (func (result i32) (result) (result i64 i64)))", ((), (A, B, B))),
                ("(type $x (func (param $x i32) (param $x i64) (result i32)))", ((A, B), (A,)))):
            self.gives(text, signatures=(signature,))

    def test_equal_signatures_stay(self):
        self.gives("(type (func)) (type (func)) (type $t (func)) (tag)", signatures=(((), ()),) * 3, tags=(0,))

    def test_faults(self):
        self.field_fault("( expected", "(type @)")
        self.field_fault("( expected", "(type $t @$u (func))")
        self.field_fault("( expected", "(type @func)")
        self.field_fault("func expected", "(type (@))")
        self.field_fault("func expected", "(type (@param i32))")
        self.field_fault("func expected", "(type (@(func)))")
        self.field_fault(") expected", "(type (func @$f))")
        self.field_fault(") expected", "(type (func @i32))")
        self.field_fault(") expected", "(type (func (param i32) @(foo)))")
        self.field_fault(") expected", "(type (func (result i32) @(param i32)))")
        self.field_fault(") expected", "(type (func @()))")
        self.field_fault(") expected", "(type (func) @(func))")
        self.field_fault(") expected", "(type (func) @x)")
        self.field_fault("kind expected", "(type (func (param @f32)))")
        self.field_fault("kind expected", "(type (func (param i32 @$x)))")
        self.field_fault("kind expected", "(type (func (param @$)))")
        self.field_fault("kind expected", "(type (func (param $x @)))")
        self.field_fault("kind expected", "(type (func (param $x @$y i32)))")
        self.field_fault("kind expected", "(type (func (param $x @(i32))))")
        self.field_fault("kind expected", "(type (func (result @$x i32)))")
        self.field_fault("kind expected", "(type (func (result i64 @I32)))")
        self.field_fault(") expected", "(type (func (param $x i32 @i32)))")
        self.field_fault(") expected", "(type (func (param $x i32 @$y i32)))")
        self.field_fault(") expected", '(type (func (param i32 @"a")))')
        self.field_fault(") expected", "(type (func (param @(param))))")
        self.field_fault(") expected", "(type (func (result @(result))))")


class Imports(Fields):
    def imported(self, inner, sort, what, signatures=()):
        self.gives('(import "m" "n" ' + inner + ")", imports=(("m", "n", sort, what),), signatures=signatures)

    def test_each_kind(self):
        for name in ("", "$x "):
            self.imported("(func " + name + ")", "func", 0, (((), ()),))
            self.imported("(func " + name + "(param i32) (result i64))", "func", 0, (((A,), (B,)),))
            self.imported("(func " + name + "(type 7))", "func", 7)
            self.imported("(table " + name + "1 funcref)", "table", (1, None))
            self.imported("(table " + name + "1 0x10 funcref)", "table", (1, 16))
            self.imported("(memory " + name + "0)", "memory", (0, None))
            self.imported("(memory " + name + "4294967295 0)", "memory", (4294967295, 0))
            self.imported("(global " + name + "i32)", "global", (A, False))
            self.imported("(global " + name + "(mut i64))", "global", (B, True))
            self.imported("(tag " + name + "(param $x i64))", "tag", 0, (((B,), ()),))
            self.imported("(tag " + name + "(type 0))", "tag", 0)

    def test_names(self):
        self.gives('(import "" "a\\20\\22\\5c~" (memory 1))', imports=(("", 'a "\\~', "memory", (1, None)),))
        name = "x" * 60
        self.gives('(import "' + name + '" "\\41' + name[1:] + '" (memory 1))', imports=((name, "A" + name[1:], "memory", (1, None)),))
        for code in range(256):
            text = '(module (import "a@\\{:02x}" "b" (memory 1)))'.format(code)
            if 32 <= code <= 126 and code != 37:
                self.assertEqual(parse(text.replace("@", "")).imports[0][0], "a" + chr(code))
            else:
                self.fault("invalid name character", text.replace('"a@', '@"a'))

    def test_faults_of_names(self):
        self.field_fault("name too long", '(import @"' + "x" * 61 + '" "" (memory 1))')
        self.field_fault("name too long", '(import "" @"' + "x" * 61 + '" (memory 1))')
        self.field_fault("name too long", '(import @"' + "\\00" * 61 + '" "" (memory 1))')
        self.field_fault("invalid name character", '(import @"' + "\\00" * 60 + '" "" (memory 1))')
        for token in ("a", "$a", "1", ")", '("a")'):
            self.field_fault("string expected", "(import @" + token + ("" if token == ")" else ")"))
            self.field_fault("string expected", '(import "a" @' + token + ("" if token == ")" else ")"))

    def test_faults(self):
        self.field_fault("( expected", '(import "a" "b" @func)')
        self.field_fault("( expected", '(import "a" "b" @"c")')
        self.field_fault("( expected", '(import "a" "b" @)')
        for token in ("foo", "$f", ")", "(func)", '"func"', "type", "Func", "elem", "export"):
            self.field_fault("unknown kind", '(import "a" "b" (@' + token + ("))" if token != ")" else ")"))
        self.field_fault(") expected", '(import "a" "b" (func @x))')
        self.field_fault(") expected", '(import "a" "b" (func $f @$g))')
        self.field_fault(") expected", '(import "a" "b" (func (result i32) @(param i32)))')
        self.field_fault(") expected", '(import "a" "b" (func) @(func))')
        self.field_fault(") expected", '(import "a" "b" (memory 1 2 @3))')
        self.field_fault("funcref expected", '(import "a" "b" (table 1 2 @3))')
        self.field_fault("funcref expected", '(import "a" "b" (table 1 @))')
        self.field_fault("number expected", '(import "a" "b" (table @funcref))')
        self.field_fault("number expected", '(import "a" "b" (memory $m @$n))')
        self.field_fault("kind expected", '(import "a" "b" (global @))')
        self.field_fault("kind expected", '(import "a" "b" (global @(foo i32)))')
        self.field_fault("kind expected", '(import "a" "b" (global (mut @f32)))')
        self.field_fault("kind expected", '(import "a" "b" (global $g @mut))')
        self.field_fault(") expected", '(import "a" "b" (global (mut i32 @i32)))')
        self.field_fault(") expected", '(import "a" "b" (global i32 @(i32.const 1)))')
        self.field_fault("index expected", '(import "a" "b" (tag (type @)))')

    def test_too_late(self):
        for front in ("(func)", "(table 1 funcref)", "(memory 1)", "(tag)", "(global i32 (i32.const 1))"):
            self.field_fault("import too late", front + '(@import "a" "b" (func))')
            self.field_fault("import too late", '(import "a" "b" (func)) ' + front + '(@import)')
        for front in ('(export "a" (func 0))', "(start 0)", "(elem (i32.const 0) func)", "(data (i32.const 0))",
                      "(type (func))", '(import "c" "d" (func))'):
            module = parse("(module " + front + '(import "a" "b" (func)))')
            self.assertEqual(module.imports[-1][:3], ("a", "b", "func"))
        # The field in front has a fault itself.
        self.field_fault("number expected", '(memory @x) (import "a" "b" (func))')

    def test_numbering(self):
        fields = """(import "a" "b" (func $f)) (import "a" "b" (table $t 1 funcref)) (import "a" "b" (func))
            (import "a" "b" (func $g)) (import "a" "b" (memory $m 1)) (import "a" "b" (global $v i32))
            (import "a" "b" (tag $e)) (import "a" "b" (tag $e2))"""
        own = '(func $h) (table $u 1 funcref) (memory $n 1) (global $w i32 (i32.const 1)) (tag $e3)'
        exports = "".join('(export "{}" ({} {}))'.format(at, *row) for at, row in enumerate((
            ("func", "$f"), ("func", "$g"), ("func", "$h"), ("table", "$t"), ("table", "$u"), ("memory", "$m"),
            ("memory", "$n"), ("global", "$v"), ("global", "$w"), ("tag", "$e"), ("tag", "$e2"), ("tag", "$e3"))))
        module = parse("(module " + fields + own + exports + ")")
        self.assertEqual([row[2] for row in module.exports], [0, 2, 3, 0, 1, 0, 1, 0, 1, 0, 1, 2])


class Definitions(Fields):
    def test_tables(self):
        self.gives("(table 0 funcref) (table $t 1 2 funcref) (table 0xffffffff 00000000000001 funcref)",
                   tables=((0, None), (1, 2), (4294967295, 1)))
        self.field_fault("number expected", "(table @)")
        self.field_fault("number expected", "(table @funcref)")
        self.field_fault("number expected", "(table $t @$u 1 funcref)")
        self.field_fault("number expected", "(table @-1 funcref)")
        self.field_fault("number expected", "(table @4294967296 funcref)")
        self.field_fault("number expected", "(table @0x100000000 funcref)")
        self.field_fault("number expected", '(table @"1" funcref)')
        self.field_fault("number expected", "(table @(1) funcref)")
        self.field_fault("funcref expected", "(table 1 @)")
        self.field_fault("funcref expected", "(table 1 @4294967296 funcref)")
        self.field_fault("funcref expected", "(table 1 2 @externref)")
        self.field_fault("funcref expected", "(table 1 @$t funcref)")
        self.field_fault(") expected", "(table 1 funcref @1)")

    def test_memories(self):
        self.gives("(memory 0) (memory $m 1 0x2) (memory 5 4)", memories=((0, None), (1, 2), (5, 4)))
        self.field_fault("number expected", "(memory @)")
        self.field_fault("number expected", "(memory @0x)")
        self.field_fault(") expected", "(memory 1 @x)")
        self.field_fault(") expected", "(memory 1 2 @3)")
        self.field_fault(") expected", "(memory 1 @4294967296)")

    def test_tags(self):
        self.gives("(tag) (tag $e (type 9)) (tag (param i32)) (tag $f (type $t) (param i64))"
                   "(type $t (func (param $x i64)))", tags=(1, 9, 2, 0), signatures=(((B,), ()), ((), ()), ((A,), ())))
        self.field_fault(") expected", "(tag @x)")
        self.field_fault(") expected", "(tag @(func))")
        self.field_fault("signature mismatch", "(tag (type 0) (param i32) @)")

    def test_globals(self):
        self.gives("(global i32 (i32.const -1)) (global $g (mut i64) (i64.const 0x10)) (global (mut i32) (global.get $g))"
                   "(global i64 (global.get 77)) (global i32 (i64.const 5))",
                   variables=((A, False, ("i32.const", -1)), (B, True, ("i64.const", 16)), (A, True, ("global.get", 1)),
                              (B, False, ("global.get", 77)), (A, False, ("i64.const", 5))))
        self.field_fault("kind expected", "(global @)")
        self.field_fault("kind expected", "(global @f32 (i32.const 1))")
        self.field_fault("kind expected", "(global @(i32.const 1))")
        self.field_fault("kind expected", "(global @() (i32.const 1))")
        self.field_fault("kind expected", "(global (mut @) (i32.const 1))")
        self.field_fault("kind expected", "(global $g @$h i32 (i32.const 1))")
        self.field_fault(") expected", "(global (mut i32 @(i32.const 1)))")
        self.field_fault("( expected", "(global i32 @)")
        self.field_fault("( expected", "(global i32 @i32.const 1)")
        self.field_fault("constant expected", "(global i32 (@))")
        self.field_fault("constant expected", "(global i32 (@i32.add))")
        self.field_fault("constant expected", "(global i32 (@global.set 1))")
        self.field_fault("constant expected", '(global i32 (@"i32.const" 1))')
        self.field_fault("constant expected", "(global i32 (@(i32.const 1)))")
        self.field_fault("constant expected", "(global i32 (i32.const @))")
        self.field_fault("constant expected", "(global i32 (i32.const @$x))")
        self.field_fault("constant too large", "(global i32 (i32.const @4294967296))")
        self.field_fault("index expected", "(global i32 (global.get @))")
        self.field_fault("index expected", "(global i32 (global.get @-1))")
        self.field_fault("unknown identifier", "(global i32 (global.get @$g))")
        self.field_fault(") expected", "(global i32 (i32.const 1 @2))")
        self.field_fault(") expected", "(global i32 (i32.const 1) @(i32.const 1))")

    def test_exports(self):
        self.gives('(export "" (func 0)) (export "a" (table 1)) (export "a" (memory $m)) (export "g" (global 4294967295))'
                   '(export "\\5c" (tag 0x5)) (memory 1) (memory $m 1)',
                   exports=(("", "func", 0), ("a", "table", 1), ("a", "memory", 1), ("g", "global", 4294967295),
                            ("\\", "tag", 5)), memories=((1, None), (1, None)))
        self.field_fault("string expected", "(export @(func 0))")
        self.field_fault("string expected", '(export @$e "a" (func 0))')
        self.field_fault("name too long", '(export @"' + "a" * 61 + '" (func 0))')
        self.field_fault("invalid name character", '(export @"\\7f" (func 0))')
        self.field_fault("( expected", '(export "a" @func 0)')
        self.field_fault("( expected", '(export "a" @)')
        self.field_fault("unknown kind", '(export "a" (@))')
        self.field_fault("unknown kind", '(export "a" (@type 0))')
        self.field_fault("unknown kind", '(export "a" (@0))')
        self.field_fault("unknown kind", '(export "a" (@"func" 0))')
        self.field_fault("index expected", '(export "a" (func @))')
        self.field_fault("index expected", '(export "a" (func @4294967296))')
        self.field_fault("index expected", '(export "a" (func @$))')
        self.field_fault("index expected", '(export "a" (func @"f"))')
        self.field_fault("unknown identifier", '(export "a" (func @$m)) (memory $m 1)')
        self.field_fault(") expected", '(export "a" (func 0 @0))')
        self.field_fault(") expected", '(export "a" (func 0) @(func 0))')

    def test_start(self):
        self.gives("(start 0)", start=0)
        self.gives("(start 0xfFfFfFfF)", start=4294967295)
        self.gives("(start $f) (func) (func $f)", start=1, functions=((0, (), ()),) * 2, signatures=(((), ()),))
        self.field_fault("index expected", "(start @)")
        self.field_fault("index expected", "(start @(func 0))")
        self.field_fault("unknown identifier", "(start @$f)")
        self.field_fault(") expected", "(start 0 @1)")
        self.field_fault("second start", "(start 0) (@start 0)")
        self.field_fault("second start", "(start 0) (memory 1) (@start)")
        self.field_fault("number expected", "(start 0) (memory @x) (start 0)")
        self.field_fault("index expected", "(start @x) (start 0)")


class Segments(Fields):
    def test_table_segments(self):
        self.gives("(elem (i32.const 1) func) (elem $e (table 0) (i64.const 1) func 3 0x4) (elem (table $t) (global.get 5) func $f 9)"
                   "(elem (table 4294967295) (i32.const 0) func $f $f) (table 1 funcref) (table $t 1 funcref) (func) (func $f)",
                   table_segments=((0, ("i32.const", 1), ()), (0, ("i64.const", 1), (3, 4)),
                                   (1, ("global.get", 5), (1, 9)), (4294967295, ("i32.const", 0), (1, 1))),
                   tables=((1, None),) * 2, functions=((0, (), ()),) * 2, signatures=(((), ()),))

    def test_faults_of_table_segments(self):
        self.field_fault("( expected", "(elem @)")
        self.field_fault("( expected", "(elem @0 (i32.const 0) func)")
        self.field_fault("( expected", "(elem $e @$f (i32.const 0) func)")
        self.field_fault("( expected", "(elem (table 0) @func)")
        self.field_fault("constant expected", "(elem (@foo 0) (i32.const 0) func)")
        self.field_fault("constant expected", "(elem (@memory 0) (i32.const 0) func)")
        self.field_fault("constant expected", "(elem (table 0) (@table 0) (i32.const 0) func)")
        self.field_fault("index expected", "(elem (table @) (i32.const 0) func)")
        self.field_fault("unknown identifier", "(elem $e (table @$e) (i32.const 0) func)")
        self.field_fault(") expected", "(elem (table 0 @1) (i32.const 0) func)")
        self.field_fault("func expected", "(elem (i32.const 0) @)")
        self.field_fault("func expected", "(elem (i32.const 0) @0)")
        self.field_fault("func expected", "(elem (i32.const 0) @(func))")
        self.field_fault("index expected", "(elem (i32.const 0) func 0 @func)")
        self.field_fault("index expected", "(elem (i32.const 0) func @4294967296)")
        self.field_fault("unknown identifier", "(elem $e (i32.const 0) func @$e)")
        self.field_fault(") expected", "(elem (i32.const 0) func 0 @(func))")
        self.field_fault(") expected", '(elem (i32.const 0) func @"0")')

    def test_memory_segments(self):
        self.gives('(data (i32.const 1)) (data $d (memory 0) (i64.const 1) "") (data (memory $m) (global.get $g) "ab")'
                   '(data (memory 7) (i32.const 0) "a" "" "\\00\\ff\\"" (;;) "b")'
                   "(memory 1) (memory $m 1) (global $g i32 (i32.const 1))",
                   memory_segments=((0, ("i32.const", 1), ()), (0, ("i64.const", 1), ()), (1, ("global.get", 0), (97, 98)),
                                    (7, ("i32.const", 0), (97, 0, 255, 34, 98))),
                   memories=((1, None),) * 2, variables=((A, False, ("i32.const", 1)),))

    def test_all_bytes(self):
        text = "".join("\\{:02x}".format(code) for code in range(256))
        self.gives('(data (i32.const 0) "' + text + '")', memory_segments=((0, ("i32.const", 0), tuple(range(256))),))

    def test_long_strings(self):
        # Only names are short.
        self.gives('(data (i32.const 0) "' + "a" * 500 + '")', memory_segments=((0, ("i32.const", 0), (97,) * 500),))

    def test_faults_of_memory_segments(self):
        self.field_fault("( expected", "(data @)")
        self.field_fault("( expected", '(data @"a")')
        self.field_fault("constant expected", '(data (@table 0) (i32.const 0) "a")')
        self.field_fault("unknown identifier", "(data (memory @$m) (i32.const 0))")
        self.field_fault(") expected", '(data (memory 0 @"a") (i32.const 0))')
        self.field_fault(") expected", "(data (i32.const 0) @a)")
        self.field_fault(") expected", '(data (i32.const 0) "a" @1 "b")')
        self.field_fault(") expected", '(data (i32.const 0) "a" @("b"))')


class Identifiers(Fields):
    def test_the_first_one_that_has_it(self):
        self.gives("(func) (func $f) (func $f) (start $f)", functions=((0, (), ()),) * 3, signatures=(((), ()),), start=1)
        self.gives("(type (func (param i32))) (type $t (func)) (type $t (func (param i64))) (tag (type $t))", tags=(1,),
                   signatures=(((A,), ()), ((), ()), ((B,), ())))

    def test_each_sort_has_its_own(self):
        self.gives('(type (func)) (type $x (func)) (import "a" "b" (memory $x 1)) (table 1 funcref) (table $x 1 funcref)'
                   '(global $x i32 (i32.const 1)) (tag (type $x)) (tag $x (type $x)) (export "a" (tag $x))'
                   '(export "b" (table $x)) (export "c" (memory $x)) (export "d" (global $x))',
                   signatures=(((), ()),) * 2, imports=(("a", "b", "memory", (1, None)),), tables=((1, None),) * 2,
                   variables=((A, False, ("i32.const", 1)),), tags=(1, 1),
                   exports=(("a", "tag", 1), ("b", "table", 1), ("c", "memory", 0), ("d", "global", 0)))

    def test_strange_identifiers(self):
        for name in ("$0", "$$", "$i32", "$type", "$a.b/c'<>", "$" + "x" * 199):
            self.gives("(memory " + name + ' 1) (export "" (memory ' + name + "))", memories=((1, None),),
                       exports=(("", "memory", 0),))
        self.field_fault("unknown identifier", "(start @$F) (func $f)")

    def test_a_number_need_not_belong_to_anything(self):
        self.gives("(start 5) (elem (table 6) (global.get 7) func 8) (data (memory 9) (global.get 1)) (tag (type 2))",
                   start=5, table_segments=((6, ("global.get", 7), (8,)),), memory_segments=((9, ("global.get", 1), ()),),
                   tags=(2,))


if __name__ == "__main__":
    unittest.main()

import copy
import unittest

from support import ACCESS_OPCODES, is_all_tuples
from wasmhost.check.code import count_places
from wasmhost.check.modules import check
from wasmhost.errors import NoSuchItem
from wasmhost.flat import flatten
from wasmhost.modules import Module
from wasmhost.numbers import INSTRUCTIONS, signature_of
from wasmhost.text.modules import parse

A, B = "i32", "i64"

FIELDS = """
(type $t0 (func)) (type $t1 (func (param i32) (result i32))) (type $t2 (func (param i64 i32) (result i32 i64)))
(type $t3 (func (param i64))) (type $t4 (func (param i32 i32)))
(import "m" "f" (func $f0 (type 1))) (import "m" "x" (tag $x (type 0))) (table 1 funcref) (table $a 1 funcref) (memory 1)
(tag $e (type 3)) (tag $d (type 4)) (global $g (mut i64) (i64.const 0))
"""


class Flat(unittest.TestCase):
    def module(self, code, head=""):
        module = parse("(module " + FIELDS + "(func $f1) (func $f2 " + head + " " + code + "))")
        self.assertIsNone(check(module), code)
        return module

    def flat(self, code, head=""):
        """The flat code of a function, behind an imported one and an own one."""
        module = self.module(code, head)
        rows = flatten(module, 2)
        self.assertTrue(is_all_tuples(rows))
        self.assertEqual(len(rows), count_places(module.functions[1][2]))
        return rows

    def gives(self, code, rows, head=""):
        """Checks all rows. A row without catchers is written as a pair."""
        self.assertEqual(self.flat(code, head), tuple(row if len(row) == 3 else row + ((),) for row in rows), code)


END = (("end",), (-1,))


class Rows(Flat):
    def test_an_empty_body(self):
        self.gives("", [END])

    def test_instructions_that_stay(self):
        for code, instruction in (
                ("nop", ("nop",)), ("unreachable", ("unreachable",)), ("return", ("return",)), ("call $f1", ("call", 1)),
                ("throw $x", ("throw", 0))):
            self.gives(code, [(instruction, ()), END])
        self.gives("i32.const -5 i64.const 7 drop local.get 1 local.set 0 local.tee 0 global.get $g global.set $g drop", [
            (("i32.const", -5), ()), (("i64.const", 7), ()), (("drop",), ()), (("local.get", 1), ()), (("local.set", 0), ()),
            (("local.tee", 0), ()), (("global.get", 0), ()), (("global.set", 0), ()), (("drop",), ()), END], "(local i32 i32)")
        self.gives("i32.const 1 call_indirect $a (type 0) i32.const 1 i32.const 2 i32.const 3 select drop", [
            (("i32.const", 1), ()), (("call_indirect", 0, 1), ())] + [(("i32.const", at), ()) for at in (1, 2, 3)] + [
            (("select",), ()), (("drop",), ()), END])
        self.gives("memory.size memory.grow i32.const 1 i32.const 2 memory.copy", [
            (("memory.size",), ()), (("memory.grow",), ()), (("i32.const", 1), ()), (("i32.const", 2), ()),
            (("memory.copy",), ()), END])
        self.gives("i32.const 1 i32.const 1 i32.const 2 memory.fill", [
            (("i32.const", 1), ()), (("i32.const", 1), ()), (("i32.const", 2), ()), (("memory.fill",), ()), END])

    def test_numeric_instructions(self):
        for name in INSTRUCTIONS:
            front = tuple((kind + ".const", 1) for kind in signature_of(name)[0])
            module = Module(signatures=(((), ()),), functions=((0, (), front + ((name,), ("drop",))),))
            self.assertEqual(flatten(module, 0), tuple((row, (), ()) for row in front + ((name,), ("drop",))) + (
                (("end",), (-1,), ()),))

    def test_loads_and_stores(self):
        for _, name in ACCESS_OPCODES:
            code = "i32.const 0 " + (name + " offset=7 align=1 drop" if "load" in name else name[:3] + ".const 1 " + name + " align=1")
            rows = self.flat(code)
            self.assertIn((name, 0, 7 if "load" in name else 0), [row[0] for row in rows])

    def test_block(self):
        self.gives("block nop end nop", [(("block",), ()), (("nop",), ()), (("end",), (3,)), (("nop",), ()), END])
        self.gives("block end", [(("block",), ()), (("end",), (2,)), END])

    def test_loop(self):
        self.gives("loop nop end", [(("loop",), ()), (("nop",), ()), (("end",), (3,)), END])

    def test_try_table(self):
        self.gives("try_table nop end", [(("try_table",), ()), (("nop",), ()), (("end",), (3,)), END])

    def test_if(self):
        self.gives("i32.const 1 if nop else nop end", [
            (("i32.const", 1), ()), (("if",), (2, 4)), (("nop",), ()), (("end",), (6,)), (("nop",), ()), (("end",), (6,)), END])
        self.gives("i32.const 1 if end", [
            (("i32.const", 1), ()), (("if",), (2, 3)), (("end",), (4,)), (("end",), (4,)), END])
        self.gives("i32.const 1 if block end nop end", [
            (("i32.const", 1), ()), (("if",), (2, 6)), (("block",), ()), (("end",), (4,)), (("nop",), ()), (("end",), (7,)),
            (("end",), (7,)), END])

    def test_blocks_in_blocks(self):
        self.gives("block block nop end loop end end nop", [
            (("block",), ()), (("block",), ()), (("nop",), ()), (("end",), (4,)), (("loop",), ()), (("end",), (6,)),
            (("end",), (7,)), (("nop",), ()), END])


class Branches(Flat):
    def test_outwards(self):
        self.gives("block br 0 end", [(("block",), ()), (("br",), ((3, 0, 0),)), (("end",), (3,)), END])
        self.gives("block block br 1 end nop end", [
            (("block",), ()), (("block",), ()), (("br",), ((6, 0, 0),)), (("end",), (4,)), (("nop",), ()), (("end",), (6,)), END])
        self.gives("i32.const 1 br_if 0", [(("i32.const", 1), ()), (("br_if",), ((-1, 0, 0),)), END])

    def test_over_several_blocks(self):
        code = "block $a block $b block $c br 0 br 1 br 2 br 3 end end end"
        ways = [(8, 0, 0), (9, 0, 0), (10, 0, 0), (-1, 0, 0)]
        self.gives(code, [(("block",), ())] * 3 + [(("br",), (way,)) for way in ways] + [
            (("end",), (8,)), (("end",), (9,)), (("end",), (10,)), END])

    def test_to_a_loop(self):
        self.gives("nop loop br 0 end", [(("nop",), ()), (("loop",), ()), (("br",), ((1, 0, 0),)), (("end",), (4,)), END])
        self.gives("loop nop loop br 1 end end", [
            (("loop",), ()), (("nop",), ()), (("loop",), ()), (("br",), ((0, 0, 0),)), (("end",), (5,)), (("end",), (6,)), END])

    def test_to_a_loop_with_parameters(self):
        rows = self.flat("i64.const 5 i64.const 1 i32.const 2 loop (type 2) br 0 end drop drop drop")
        self.assertEqual(rows[4], (("br",), ((3, 2, 1),), ()))
        self.assertEqual(rows[5], (("end",), (6,), ()))

    def test_to_the_outermost_label(self):
        rows = self.flat("i64.const 1 block i32.const 1 i64.const 2 br 1 end drop i32.const 1 i64.const 2", "(result i32 i64)")
        self.assertEqual(rows[4], (("br",), ((-1, 2, 0),), ()))
        rows = self.flat("i64.const 1 i32.const 1 br 0", "(result i32)")
        self.assertEqual(rows[2], (("br",), ((-1, 1, 0),), ()))

    def test_out_of_both_bodies_of_an_if(self):
        code = "i64.const 9 i32.const 1 if $l (result i64) i64.const 1 br $l else i64.const 2 i32.const 1 br_if $l br 1 end drop drop"
        rows = self.flat(code)
        self.assertEqual([row[1] for row in rows[2:11]], [
            (3, 6), (), ((11, 1, 1),), (11,), (), (), ((11, 1, 1),), ((-1, 0, 0),), (11,)])

    def test_br_table(self):
        code = ("i64.const 1 block (result i32) i64.const 2 loop i64.const 3 drop i32.const 1 br_table 0 end drop i32.const 4 end drop drop")
        rows = self.flat(code)
        self.assertEqual(rows[7], (("br_table",), ((3, 0, 2),), ()))
        code = "block $a block $b loop $c i32.const 1 br_table $c $a 3 $b $c $b end end end"
        rows = self.flat(code)
        a, b, c, out = (8, 0, 0), (7, 0, 0), (2, 0, 0), (-1, 0, 0)
        self.assertEqual(rows[4], (("br_table",), (c, a, out, b, c, b), ()))

    def test_br_table_with_values(self):
        code = "block $a (result i32) i64.const 1 block $b (result i32) i32.const 1 i32.const 2 br_table $b $a 2 $b end br 1 end"
        rows = self.flat(code, "(result i32)")
        self.assertEqual(rows[5], (("br_table",), ((7, 1, 1), (9, 1, 0), (-1, 1, 0), (7, 1, 1)), ()))


class Heights(Flat):
    def height(self, at, code, head=""):
        """The height of the exit in the row at a place, with the number of values."""
        (way,) = self.flat(code, head)[at][1]
        return way[1:]

    def test_values_below(self):
        self.assertEqual(self.height(3, "i32.const 1 i64.const 1 block br 0 end drop drop"), (0, 2))
        self.assertEqual(self.height(4, "i32.const 1 i64.const 1 i32.const 1 if br 0 end drop drop"), (0, 2))

    def test_parameters(self):
        self.assertEqual(self.height(3, "i64.const 1 i32.const 2 block (type 1) br 0 end drop drop"), (1, 1))
        rows = self.flat("i64.const 1 i64.const 1 i32.const 2 i32.const 1 if (type 2) unreachable br 0 else unreachable end drop drop drop")
        self.assertEqual(rows[6], (("br",), ((10, 2, 1),), ()))

    def test_try_tables(self):
        rows = self.flat("i32.const 5 i32.const 1 try_table (type 1) br 0 end drop drop")
        self.assertEqual(rows[3], (("br",), ((5, 1, 1),), ()))

    def test_dead_places(self):
        # Nothing is known of the stack but what was put since.
        self.assertEqual(self.height(2, "unreachable block br 0 end"), (0, 0))
        self.assertEqual(self.height(4, "unreachable i32.const 1 i32.const 2 block br 0 end drop drop"), (0, 2))
        self.assertEqual(self.height(4, "unreachable i32.const 1 i32.const 2 block (type 1) br 0 end drop drop"), (1, 1))
        self.assertEqual(self.height(3, "unreachable i32.const 1 block (type 1) br 0 end drop"), (1, 0))

    def test_unknown_kinds_do_not_count(self):
        self.assertEqual(self.height(2, "unreachable block (type 1) br 0 end drop"), (1, 0))
        self.assertEqual(self.height(3, "unreachable i32.const 1 loop (type 2) br 0 end drop drop"), (2, 0))
        self.assertEqual(self.height(2, "unreachable if br 0 end"), (0, 0))
        self.assertEqual(self.height(3, "unreachable i32.const 1 if br 0 end"), (0, 0))
        self.assertEqual(self.height(4, "unreachable i64.const 2 i32.const 1 if (type 3) br 0 else drop end"), (0, 0))

    def test_unknown_kinds_on_the_stack_count(self):
        self.assertEqual(self.height(3, "unreachable select block br 0 end drop"), (0, 1))
        self.assertEqual(self.height(3, "unreachable select block (type 1) br 0 end drop"), (1, 0))

    def test_dead_places_above_known_values(self):
        self.assertEqual(self.height(5, "i64.const 1 i32.const 1 block unreachable block br 0 end end drop drop"), (0, 2))
        self.assertEqual(self.height(6, "i64.const 1 i32.const 1 block unreachable i32.const 1 block br 0 end drop end drop drop"), (0, 3))
        self.assertEqual(self.height(5, "i64.const 1 i32.const 1 block unreachable block (type 1) br 0 end drop end drop drop"), (1, 2))

    def test_blocks_inside_of_blocks_at_dead_places(self):
        self.assertEqual(self.height(5, "unreachable i32.const 7 block i32.const 1 block br 0 end drop end drop"), (0, 2))
        self.assertEqual(self.height(5, "unreachable block (type 1) i64.const 2 block nop br 0 end drop end drop"), (0, 2))

    def test_behind_a_loose_body(self):
        self.assertEqual(self.height(4, "block (result i32) unreachable end block br 0 end drop"), (0, 1))


class Catchers(Flat):
    def catchers(self, code, head=""):
        return [row[2] for row in self.flat(code, head)]

    def test_where_they_are_active(self):
        self.assertEqual(self.catchers("nop try_table (catch $x 0) nop end nop"),
                         [(), (), ((0, -1, 0, 0),), ((0, -1, 0, 0),), (), ()])

    def test_blocks_inside(self):
        active = ((None, -1, 0, 0),)
        self.assertEqual(self.catchers("try_table (catch_all 0) block nop end i32.const 1 if else end end"),
                         [()] + [active] * 8 + [()])

    def test_their_order(self):
        code = "block $a block $b try_table (catch_all $a) (catch $x $b) (catch_all 2) nop end end end"
        self.assertEqual(self.catchers(code)[3], ((None, 7, 0, 0), (0, 6, 0, 0), (None, -1, 0, 0)))

    def test_nested_try_tables(self):
        code = "block $a try_table $t (catch $x $a) try_table $u (catch_all $t) (catch $x $a) nop end nop end nop end"
        # The place behind the try_table $t is 7, and that behind the block $a is 9.
        inner = ((None, 7, 0, 0), (0, 9, 0, 0), (0, 9, 0, 0))
        outer = ((0, 9, 0, 0),)
        self.assertEqual(self.catchers(code), [(), (), outer, inner, inner, outer, outer, (), (), ()])

    def test_beside_each_other(self):
        self.assertEqual(self.catchers("try_table (catch_all 0) end try_table (catch $x 0) end"),
                         [(), ((None, -1, 0, 0),), (), ((0, -1, 0, 0),), ()])

    def test_values_and_heights(self):
        code = ("i32.const 1 block $a (result i64) i32.const 2 loop $l (result i64) i32.const 3 block $b (result i32 i32)"
                " try_table (catch $e $a) (catch $d $b) (catch_all $l) nop end unreachable end drop drop drop i64.const 5 end"
                " br $a end drop drop")
        rows = self.flat(code)
        ends = [at for at, row in enumerate(rows) if row[0] == ("end",)]
        self.assertEqual(rows[7][0], ("nop",))
        # The ends are those of the try_table, of $b, of the loop and of $a.
        self.assertEqual(rows[7][2], ((1, ends[3] + 1, 1, 1), (2, ends[1] + 1, 2, 3), (None, 3, 0, 2)))

    def test_a_catch_for_the_function(self):
        code = "i64.const 3 i32.const 1 i64.const 2 try_table (catch $e 0) nop end drop drop"
        self.assertEqual(self.catchers(code, "(result i64)")[4], ((1, -1, 1, 0),))

    def test_without_catches(self):
        self.assertEqual(self.catchers("try_table (catch_all 0) try_table nop end end")[2], ((None, -1, 0, 0),))

    def test_rows_of_branches_have_them_too(self):
        rows = self.flat("block try_table (catch_all 0) br 0 br 1 end end")
        self.assertEqual(rows[2], (("br",), ((5, 0, 0),), ((None, 6, 0, 0),)))
        self.assertEqual(rows[4], (("end",), (5,), ((None, 6, 0, 0),)))

    def test_at_dead_places(self):
        rows = self.flat("unreachable i32.const 1 block i32.const 2 try_table (catch_all 0) nop end drop end drop")
        self.assertEqual(rows[5], (("nop",), (), ((None, 9, 0, 1),)))


class Functions(unittest.TestCase):
    def test_no_such_function(self):
        module = parse('(module (import "a" "b" (func)) (import "a" "c" (func)) (func nop) (func))')
        self.assertEqual([len(flatten(module, func)) for func in (2, 3)], [2, 1])
        for func in (4, 5, 0, 1, -1, -2, -3, 10 ** 30):
            with self.assertRaises(NoSuchItem) as caught:
                flatten(module, func)
            self.assertEqual((caught.exception.kind, caught.exception.index), ("func", func))
        with self.assertRaises(NoSuchItem):
            flatten(Module(), 0)

    def test_the_module_stays(self):
        module = parse("(module (func block try_table (catch_all 0) br 0 end end))")
        before = copy.deepcopy(vars(module))
        self.assertEqual(flatten(module, 0), flatten(module, 0))
        self.assertEqual(vars(module), before)


if __name__ == "__main__":
    unittest.main()

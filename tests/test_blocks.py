"""Blocks (points 802 to 806), written out."""
import unittest

from wasmhost.check.modules import check
from wasmhost.errors import NoSuchItem
from wasmhost.fast.lower import blocks
from wasmhost.fast.run import heights_of
from wasmhost.modules import Module
from wasmhost.numbers import INSTRUCTIONS, signature_of
from wasmhost.text.modules import parse

FIELDS = """(module (type $s (func (param i32) (result i32))) (type $t (func (param i64 i32) (result i32 i64))) (import "" "" (func $h))
(memory 1) (table 1 funcref) (tag $x) (global i32 (i32.const 1)) (global $g (mut i64) (i64.const 1))
"""


class Case(unittest.TestCase):
    def module(self, code, head):
        module = parse(FIELDS + "(func $f " + head + " " + code + "))")
        self.assertIsNone(check(module), code)
        return module

    def gives(self, code, *rows, head=""):
        found = blocks(self.module(code, head), 1)
        self.assertIs(type(found), list)
        self.assertEqual(found, list(rows), code)


def leaving(place, height=0):
    """The block of a place whose row leaves at once."""
    return (place, height, 0, (), ("leave", place))


class Lines(Case):
    """The function has two local variables, so the lowest value of the stack has the register 2."""

    def lines(self, code, *lines, head="(param i32 i64)", height=0):
        module = self.module(code + " unreachable", head)
        first = blocks(module, 1)[0]
        count = len(lines)
        self.assertEqual(first, (0, 0, count, lines, ("leave", count)), code)
        self.assertEqual(heights_of(module, 1)[count], height)

    def test_skips_and_constants(self):
        self.lines("nop", ("skip",))
        self.lines("i32.const -5 drop i64.const 7 nop", ("const", 2, -5), ("skip",), ("const", 2, 7), ("skip",), height=1)
        self.lines("i32.const 1 i64.const 2 i32.const 3", ("const", 2, 1), ("const", 3, 2), ("const", 4, 3), height=3)

    def test_locals(self):
        self.lines("local.get 1 local.get 0 local.set 0 local.set 1", ("copy", 2, 1), ("copy", 3, 0), ("copy", 0, 3), ("copy", 1, 2))
        self.lines("i32.const 4 local.tee 0 drop i64.const 6 local.tee 1", ("const", 2, 4), ("copy", 0, 2), ("skip",), ("const", 2, 6), ("copy", 1, 2), height=1)

    def test_no_local_variables(self):
        self.lines("i32.const 4 i32.const 5 i32.add", ("const", 0, 4), ("const", 1, 5), ("compute", "i32.add", 0, (0, 1)), head="", height=1)

    def test_locals_behind_parameters(self):
        self.lines("local.get 3 local.set 2", ("copy", 4, 3), ("copy", 2, 4), head="(param i64) (local i32 i32 i32)")

    def test_globals(self):
        # The indexes are those of the module.
        self.lines("global.get 0 global.get 1 global.set 1", ("get", 2, 0), ("get", 3, 1), ("set", 1, 3), height=1)

    def test_numeric_instructions(self):
        for name in INSTRUCTIONS:
            params, _ = signature_of(name)
            code = "i64.const 9 " + " ".join(kind + ".const 1" for kind in params) + " " + name
            front = (("const", 2, 9),) + tuple(("const", 3 + at, 1) for at in range(len(params)))
            self.lines(code, *front, ("compute", name, 3, (3, 4)[:len(params)]), height=2)

    def test_select(self):
        self.lines("nop i64.const 0 i32.const 5 i32.const 6 i32.const 7 select", ("skip",), ("const", 2, 0), ("const", 3, 5), ("const", 4, 6), ("const", 5, 7),
                   ("choose", 3, 5, 3, 4), height=2)

    def test_loads_and_stores(self):
        for name in ("i32.load", "i64.load", "i32.load8_s", "i64.load32_u"):
            self.lines("i32.const 8 " + name + " offset=70", ("const", 2, 8), ("load", name, 70, 2, 2), height=1)
        for name in ("i32.store", "i64.store", "i32.store8", "i64.store32"):
            kind = name[:3]
            self.lines("i32.const 9 i32.const 8 " + kind + ".const 5 " + name, ("const", 2, 9), ("const", 3, 8), ("const", 4, 5), ("store", name, 0, 3, 4), height=1)

    def test_memory_size(self):
        self.lines("i32.const 1 memory.size", ("const", 2, 1), ("pages", 3), height=2)


class Exits(Case):
    def test_the_end_of_the_function(self):
        self.gives("", leaving(0))
        self.gives("nop", (0, 0, 1, (("skip",),), ("leave", 1)))

    def test_blocks(self):
        for name in ("block", "loop", "try_table"):
            self.gives("nop " + name + " nop end", (0, 0, 2, (("skip",),), ("go", 2, ())), (2, 0, 2, (("skip",),), ("go", 4, ())), leaving(4))
            self.gives(name + " end", (0, 0, 1, (), ("go", 1, ())), (1, 0, 1, (), ("go", 2, ())), leaving(2))

    def test_if(self):
        self.gives("i64.const 5 local.get 0 if (result i32) i32.const 1 else i32.const 2 end drop drop",
                   (0, 0, 3, (("const", 1, 5), ("copy", 2, 0)), ("if", 2, (3, ()), (5, ()))),
                   (3, 1, 2, (("const", 2, 1),), ("go", 7, ())), (5, 1, 2, (("const", 2, 2),), ("go", 7, ())),
                   (7, 2, 2, (("skip",), ("skip",)), ("leave", 9)), head="(param i32)")
        self.gives("local.get 0 if end", (0, 0, 2, (("copy", 1, 0),), ("if", 1, (2, ()), (3, ()))), (2, 0, 1, (), ("go", 4, ())),
                   (3, 0, 1, (), ("go", 4, ())), leaving(4), head="(param i32)")

    def test_br(self):
        self.gives("block br 0 end", (0, 0, 1, (), ("go", 1, ())), (1, 0, 1, (), ("go", 3, ())), leaving(3))
        # The end at the place 2 is dead.
        self.gives("block br 0 end nop", (0, 0, 1, (), ("go", 1, ())), (1, 0, 1, (), ("go", 3, ())), (3, 0, 1, (("skip",),), ("leave", 4)))

    def test_moves(self):
        self.gives("i64.const 9 block (result i32 i64) i32.const 1 i32.const 2 i64.const 3 br 0 end drop drop drop",
                   (0, 0, 2, (("const", 1, 9),), ("go", 2, ())),
                   (2, 1, 4, (("const", 2, 1), ("const", 3, 2), ("const", 4, 3)), ("go", 7, ((2, 3), (3, 4)))),
                   (7, 3, 3, (("skip",),) * 3, ("leave", 10)), head="(param i32)")

    def test_equal_registers_are_left_out(self):
        self.gives("i64.const 9 block (result i32 i64) i32.const 1 i64.const 3 br 0 end drop drop drop",
                   (0, 0, 2, (("const", 0, 9),), ("go", 2, ())), (2, 1, 3, (("const", 1, 1), ("const", 2, 3)), ("go", 6, ())),
                   (6, 3, 3, (("skip",),) * 3, ("leave", 9)))

    def test_to_a_loop(self):
        # The place of the loop itself begins a block, in the middle of another one.
        self.gives("i32.const 7 loop (param i32) drop i32.const 1 i32.const 2 br 0 end",
                   (0, 0, 2, (("const", 0, 7),), ("go", 2, ())), (1, 1, 1, (), ("go", 2, ())),
                   (2, 1, 4, (("skip",), ("const", 0, 1), ("const", 1, 2)), ("go", 1, ((0, 1),))))

    def test_br_if(self):
        self.gives("block (result i32) i64.const 4 i32.const 5 local.get 0 br_if 0 drop drop i32.const 1 end drop",
                   (0, 0, 1, (), ("go", 1, ())),
                   (1, 0, 4, (("const", 1, 4), ("const", 2, 5), ("copy", 3, 0)), ("if", 3, (9, ((1, 2),)), (5, ()))),
                   (5, 2, 4, (("skip",), ("skip",), ("const", 1, 1)), ("go", 9, ())),
                   (9, 1, 1, (("skip",),), ("leave", 10)), head="(param i32)")

    def test_br_table(self):
        self.gives("block (result i32) i64.const 4 block (result i32) i32.const 5 local.get 0 br_table 0 1 1 0 end drop drop i32.const 7 end drop",
                   (0, 0, 1, (), ("go", 1, ())), (1, 0, 2, (("const", 1, 4),), ("go", 3, ())),
                   (3, 1, 3, (("const", 2, 5), ("copy", 3, 0)), ("switch", 3, ((7, ()), (11, ((1, 2),)), (11, ((1, 2),)), (7, ())))),
                   (7, 2, 4, (("skip",), ("skip",), ("const", 1, 7)), ("go", 11, ())),
                   (11, 1, 1, (("skip",),), ("leave", 12)), head="(param i32)")
        self.gives("block local.get 0 br_table 0 end", (0, 0, 1, (), ("go", 1, ())), (1, 0, 2, (("copy", 1, 0),), ("switch", 1, ((4, ()),))), leaving(4),
                   head="(param i32)")

    def test_the_outermost_label(self):
        self.gives("nop br 0", (0, 0, 1, (("skip",),), ("leave", 1)))
        self.gives("local.get 0 br_if 0 nop", (0, 0, 1, (("copy", 1, 0),), ("leave", 1)), (2, 0, 1, (("skip",),), ("leave", 3)), head="(param i32)")
        for labels in ("0 1", "1 0", "1", "1 0 0", "0 1 0"):
            self.gives("block local.get 0 br_table " + labels + " end", (0, 0, 1, (), ("go", 1, ())), (1, 0, 1, (("copy", 1, 0),), ("leave", 2)),
                       head="(param i32)")

    def test_rows_that_leave(self):
        for code in ("call 0", "i32.const 0 call_indirect", "i32.const 1 memory.grow drop", "i32.const 1 i32.const 1 i32.const 1 memory.fill",
                     "i32.const 1 i32.const 1 i32.const 1 memory.copy"):
            row = code.replace(" drop", "").count("const")
            found = blocks(self.module("nop " + code + " nop", ""), 1)
            self.assertEqual([(block[0], block[2], block[4]) for block in found[:1]], [(0, row + 1, ("leave", row + 1))])
            self.assertEqual([block[0] for block in found], [0, row + 2])
        for code in ("unreachable", "return", "throw $x"):
            self.gives("nop " + code + " nop", (0, 0, 1, (("skip",),), ("leave", 1)))


class Places(Case):
    def test_behind_rows_that_give_exits(self):
        self.gives("call 0 call 0", leaving(0), leaving(1), leaving(2))

    def test_dead_places(self):
        self.gives("unreachable block nop end nop call 0 nop", leaving(0))
        self.gives("block unreachable nop end", (0, 0, 1, (), ("go", 1, ())), leaving(1))
        self.gives("loop br 0 end nop", (0, 0, 1, (), ("go", 1, ())), (1, 0, 1, (), ("go", 0, ())))
        self.gives("local.get 0 if return else call 0 end nop", (0, 0, 2, (("copy", 1, 0),), ("if", 1, (2, ()), (4, ()))), leaving(2), leaving(4),
                   (5, 0, 1, (), ("go", 6, ())), (6, 0, 1, (("skip",),), ("leave", 7)), head="(param i32)")

    def test_a_place_that_is_found_twice(self):
        self.gives("loop call 0 br 0 end", (0, 0, 1, (), ("go", 1, ())), leaving(1), (2, 0, 1, (), ("go", 0, ())))

    def test_costs(self):
        self.gives("nop nop nop", (0, 0, 3, (("skip",),) * 3, ("leave", 3)))
        self.gives("nop nop block end", (0, 0, 3, (("skip",),) * 2, ("go", 3, ())), (3, 0, 1, (), ("go", 4, ())), leaving(4))

    def test_no_such_function(self):
        module = self.module("nop", "")
        self.assertEqual(len(blocks(module, 1)), 1)
        for func in (0, 2, -1, -2, 10 ** 30):
            with self.assertRaises(NoSuchItem) as caught:
                blocks(module, func)
            self.assertEqual(vars(caught.exception), {"kind": "func", "index": func})
        with self.assertRaises(NoSuchItem):
            blocks(Module(), 0)

    def test_heights(self):
        module = self.module("i32.const 1 i64.const 2 block (result i32) i32.const 3 br 0 end drop drop drop", "(param i64)")
        self.assertEqual(heights_of(module, 1), (0, 1, 2, 2, 3, 2, 3, 2, 1, 0))
        self.assertIs(type(heights_of(module, 1)), tuple)


if __name__ == "__main__":
    unittest.main()

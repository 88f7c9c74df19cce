"""The three passes of point 807, sentence by sentence."""
import copy
import unittest

from wasmhost.fast.lower import blocks
from wasmhost.fast.passes import copies, fold, improve, prune
from wasmhost.fast.run import fast_entry, heights_of
from wasmhost.text.modules import parse

GO = ("go", 9, ())


def block_of(lines, ending=GO, place=3, height=1, cost=77):
    return place, height, cost, tuple(lines), ending


class Case(unittest.TestCase):
    def runs(self, action, lines, expected, ending=GO, changed=None, others=()):
        """Checks the lines and the exit behind a pass, which leaves the place, the height and the cost."""
        block = block_of(lines, ending)
        before = copy.deepcopy(block)
        found = action(block, *others)
        self.assertEqual(found, block_of(expected, ending if changed is None else changed))
        self.assertIs(type(found), tuple)
        self.assertIs(type(found[3]), tuple)
        self.assertEqual(block, before)


class Fold(Case):
    def fold(self, lines, expected, ending=GO, changed=None):
        self.runs(fold, lines, expected, ending, changed)

    def test_nothing_is_known_at_the_beginning(self):
        for line in (("copy", 2, 0), ("compute", "i32.eqz", 2, (2,)), ("choose", 2, 4, 2, 3), ("skip",), ("get", 2, 0), ("set", 0, 2), ("pages", 2),
                     ("load", "i32.load", 0, 2, 2), ("store", "i32.store", 0, 2, 3), ("const", 2, 5)):
            self.fold([line], [line])
        self.fold([], [])
        for ending in (("if", 2, (4, ()), (5, ())), ("switch", 2, ((4, ()), (5, ()))), ("leave", 3), GO):
            self.fold([], [], ending)

    def test_copies_of_known_registers(self):
        self.fold([("const", 2, 5), ("copy", 0, 2), ("copy", 3, 0), ("copy", 4, 1)], [("const", 2, 5), ("const", 0, 5), ("const", 3, 5), ("copy", 4, 1)])

    def test_compute(self):
        self.fold([("const", 2, 5), ("const", 3, 7), ("compute", "i32.sub", 2, (2, 3)), ("compute", "i32.eqz", 2, (2,)), ("copy", 1, 2)],
                  [("const", 2, 5), ("const", 3, 7), ("const", 2, -2), ("const", 2, 0), ("const", 1, 0)])

    def test_compute_with_an_unknown_operand(self):
        for lines in ([("const", 3, 7), ("compute", "i32.mul", 2, (2, 3))], [("const", 2, 0), ("compute", "i32.mul", 2, (2, 3))]):
            self.fold(lines + [("copy", 1, 2)], lines + [("copy", 1, 2)])

    def test_compute_that_traps(self):
        for name, a, b in (("i32.div_s", 1, 0), ("i64.rem_u", 1, 0), ("i32.div_s", -2 ** 31, -1)):
            lines = [("const", 2, a), ("const", 3, b), ("compute", name, 2, (2, 3)), ("copy", 0, 2), ("copy", 1, 3)]
            self.fold(lines, lines[:4] + [("const", 1, b)])

    def test_choose(self):
        for value, chosen, other in ((1, 3, 4), (-1, 3, 4), (0, 4, 3)):
            front = [("const", 5, value), ("const", chosen, 60)]
            self.fold(front + [("choose", 3, 5, 3, 4), ("copy", 0, 3)], front + [("const", 3, 60), ("const", 0, 60)])
            front = [("const", 5, value), ("const", other, 60)]
            self.fold(front + [("choose", 3, 5, 3, 4), ("copy", 0, 3)], front + [("copy", 3, chosen), ("copy", 0, 3)])
            self.fold(front[:1] + [("choose", 3, 5, 3, 4)], front[:1] + [("copy", 3, chosen)])

    def test_choose_with_an_unknown_condition(self):
        lines = [("const", 3, 60), ("const", 4, 60), ("choose", 3, 5, 3, 4), ("copy", 0, 3)]
        self.fold(lines, lines)

    def test_a_register_that_is_written_otherwise(self):
        for line in (("get", 2, 0), ("pages", 2), ("load", "i32.load", 0, 2, 3), ("copy", 2, 7), ("compute", "i32.eqz", 2, (7,)), ("choose", 2, 8, 2, 7)):
            lines = [("const", 2, 5), line, ("copy", 0, 2)]
            self.fold(lines, lines)

    def test_lines_that_write_nothing(self):
        for line in (("skip",), ("set", 2, 3), ("store", "i32.store", 2, 2, 2), ("get", 3, 2)):
            self.fold([("const", 2, 5), line, ("copy", 0, 2)], [("const", 2, 5), line, ("const", 0, 5)])

    def test_a_new_value(self):
        self.fold([("const", 2, 5), ("copy", 3, 2), ("const", 2, 6), ("copy", 4, 2), ("copy", 5, 3)],
                  [("const", 2, 5), ("const", 3, 5), ("const", 2, 6), ("const", 4, 6), ("const", 5, 5)])

    def test_if(self):
        first, second = (4, ((1, 2),)), (5, ())
        for value, way in ((1, first), (-7, first), (0, second)):
            self.fold([("const", 2, value)], [("const", 2, value)], ("if", 2, first, second), ("go",) + way)
        self.fold([("const", 3, 1)], [("const", 3, 1)], ("if", 2, first, second))

    def test_switch(self):
        ways = ((4, ((1, 2),)), (5, ()), (6, ((0, 1), (1, 2))))
        for value, way in ((0, 0), (1, 1), (2, 2), (3, 2), (-1, 2), (-2 ** 31, 2), (100, 2)):
            self.fold([("const", 2, value)], [("const", 2, value)], ("switch", 2, ways), ("go",) + ways[way])
        self.fold([("const", 1, 1)], [("const", 1, 1)], ("switch", 2, ways))
        self.fold([("const", 2, 0), ("get", 2, 0)], [("const", 2, 0), ("get", 2, 0)], ("switch", 2, ways))

    def test_other_exits(self):
        self.fold([("const", 2, 1)], [("const", 2, 1)], ("go", 4, ((1, 2),)))
        self.fold([("const", 2, 1)], [("const", 2, 1)], ("leave", 2))


class Copies(Case):
    def copies(self, lines, expected, ending=GO, changed=None):
        self.runs(copies, lines, expected, ending, changed)

    def test_registers_that_lines_read(self):
        front = [("copy", 3, 0), ("copy", 4, 1)]
        for line, made in (
                (("copy", 5, 3), ("copy", 5, 0)), (("set", 3, 4), ("set", 3, 1)), (("compute", "i32.add", 3, (3, 4)), ("compute", "i32.add", 3, (0, 1))),
                (("compute", "i32.eqz", 5, (4,)), ("compute", "i32.eqz", 5, (1,))), (("choose", 5, 3, 4, 2), ("choose", 5, 0, 1, 2)),
                (("load", "i32.load", 3, 4, 4), ("load", "i32.load", 3, 4, 1)), (("store", "i32.store", 3, 3, 4), ("store", "i32.store", 3, 0, 1)),
                (("get", 5, 3), ("get", 5, 3)), (("pages", 5), ("pages", 5)), (("const", 5, 3), ("const", 5, 3)), (("skip",), ("skip",))):
            self.copies(front + [line], front + [made])

    def test_nothing_is_known_at_the_beginning(self):
        for line in (("copy", 5, 3), ("compute", "i32.add", 3, (3, 4)), ("choose", 5, 3, 4, 2)):
            self.copies([line], [line])

    def test_roots_of_roots(self):
        self.copies([("copy", 3, 0), ("copy", 4, 3), ("copy", 5, 4), ("set", 0, 5)], [("copy", 3, 0), ("copy", 4, 0), ("copy", 5, 0), ("set", 0, 0)])

    def test_exits(self):
        front = [("copy", 3, 0)]
        first, second = (4, ((2, 3),)), (5, ((1, 3),))
        self.copies(front, front, ("if", 3, first, second), ("if", 0, first, second))
        self.copies(front, front, ("if", 2, first, second))
        self.copies(front, front, ("switch", 3, (first, second)), ("switch", 0, (first, second)))
        self.copies(front, front, ("switch", 0, (first, second)))
        # The registers of moves are not replaced.
        self.copies(front, front, ("go", 4, ((2, 3),)))
        self.copies(front, front, ("leave", 3))

    def test_a_written_register_has_no_root(self):
        for line in (("const", 3, 5), ("get", 3, 0), ("pages", 3), ("load", "i32.load", 0, 3, 2), ("compute", "i32.eqz", 3, (2,)), ("choose", 3, 2, 4, 5)):
            self.copies([("copy", 3, 0), line, ("set", 0, 3)], [("copy", 3, 0), line, ("set", 0, 3)])

    def test_a_written_register_is_no_root(self):
        for line in (("const", 0, 5), ("get", 0, 0), ("pages", 0), ("load", "i32.load", 0, 0, 2), ("compute", "i32.eqz", 0, (2,)), ("choose", 0, 2, 5, 6),
                     ("copy", 0, 1)):
            lines = [("copy", 3, 0), ("copy", 4, 0), line]
            after = 1 if line[0] == "copy" else 0
            self.copies(lines + [("set", 0, 3), ("set", 0, 4), ("set", 0, 0)], lines + [("set", 0, 3), ("set", 0, 4), ("set", 0, after)])

    def test_lines_that_write_nothing(self):
        for line in (("skip",), ("set", 0, 7), ("store", "i32.store", 0, 6, 7)):
            self.copies([("copy", 3, 0), line, ("set", 0, 3)], [("copy", 3, 0), line, ("set", 0, 0)])

    def test_a_line_that_reads_and_writes_a_register(self):
        self.copies([("copy", 3, 0), ("compute", "i32.eqz", 3, (3,)), ("set", 0, 3)], [("copy", 3, 0), ("compute", "i32.eqz", 3, (0,)), ("set", 0, 3)])
        self.copies([("copy", 3, 0), ("compute", "i32.eqz", 0, (3,)), ("set", 0, 3)], [("copy", 3, 0), ("compute", "i32.eqz", 0, (0,)), ("set", 0, 3)])

    def test_a_copy_onto_itself(self):
        self.copies([("copy", 3, 3)], [("skip",)])
        # It writes nothing and changes no root.
        self.copies([("copy", 3, 0), ("copy", 4, 0), ("copy", 0, 3), ("set", 0, 3), ("set", 0, 4)],
                    [("copy", 3, 0), ("copy", 4, 0), ("skip",), ("set", 0, 0), ("set", 0, 0)])

    def test_a_copy_that_is_made_again(self):
        self.copies([("copy", 3, 0), ("copy", 3, 0), ("set", 0, 3)], [("copy", 3, 0), ("copy", 3, 0), ("set", 0, 0)])

    def test_a_copy_forgets_other_roots(self):
        # Register 3 was the root of 4, then it becomes a copy of 1.
        self.copies([("copy", 4, 3), ("copy", 3, 1), ("set", 0, 4), ("set", 0, 3)], [("copy", 4, 3), ("copy", 3, 1), ("set", 0, 4), ("set", 0, 1)])


class Prune(Case):
    """The function has 2 local variables; the heights of its places are 0 to 9."""

    HEIGHTS = tuple(range(10))

    def prune(self, lines, expected, ending):
        self.runs(prune, lines, expected, ending, None, (self.HEIGHTS, 2))

    def bound(self, bound, ending):
        """Constants are kept below the bound only."""
        lines = [("const", cell, 5) for cell in range(20)]
        self.prune(lines, lines[:bound], ending)
        lines = [("copy", cell, 30) for cell in range(20)]
        self.prune(lines, lines[:bound], ending)

    def test_the_bound(self):
        for height in range(4):
            self.bound(2 + height, ("go", height, ()))
            self.bound(2 + height, ("leave", height))

    def test_registers_that_the_exit_reads(self):
        self.bound(7, ("go", 1, ((2, 6),)))
        self.bound(8, ("go", 1, ((2, 6), (3, 7))))
        self.bound(8, ("go", 6, ((2, 3),)))
        self.bound(6, ("if", 5, (1, ()), (2, ())))
        self.bound(6, ("switch", 5, ((1, ()), (2, ()))))
        self.bound(9, ("if", 5, (1, ()), (2, ((2, 8),))))
        self.bound(9, ("if", 5, (1, ((2, 8),)), (2, ())))
        self.bound(9, ("switch", 5, ((1, ()), (2, ((2, 8),)), (0, ()))))

    def test_several_ways(self):
        self.bound(8, ("if", 2, (6, ()), (1, ())))
        self.bound(8, ("if", 2, (1, ()), (6, ())))
        self.bound(9, ("switch", 2, ((1, ()), (7, ()), (3, ()))))
        self.bound(3, ("if", 2, (0, ()), (0, ())))

    def test_skips(self):
        self.prune([("skip",), ("const", 0, 1), ("skip",)], [("const", 0, 1)], ("leave", 0))

    def test_lines_that_stay(self):
        lines = [("get", 9, 0), ("set", 0, 9), ("compute", "i32.eqz", 9, (0,)), ("choose", 9, 0, 1, 1), ("load", "i32.load", 0, 9, 0),
                 ("store", "i32.store", 0, 0, 1), ("pages", 9)]
        self.prune(lines, lines, ("leave", 0))

    def test_what_lines_read(self):
        for line in (("set", 0, 9), ("compute", "i32.add", 5, (1, 9)), ("compute", "i32.eqz", 9, (9,)), ("choose", 5, 9, 0, 1), ("choose", 5, 0, 9, 1),
                     ("choose", 5, 0, 1, 9), ("load", "i32.load", 0, 9, 9), ("store", "i32.store", 0, 9, 1), ("store", "i32.store", 0, 1, 9), ("copy", 0, 9)):
            for front in (("const", 9, 4), ("copy", 9, 1)):
                self.prune([("const", 8, 4), front, line], [front, line], ("leave", 0))

    def test_what_is_written_is_not_read_in_front(self):
        for line in (("const", 0, 7), ("copy", 0, 1), ("get", 0, 0), ("compute", "i32.eqz", 0, (1,)), ("choose", 0, 1, 1, 1), ("load", "i32.load", 0, 0, 1),
                     ("pages", 0)):
            self.prune([("const", 0, 4), line], [line], ("leave", 0))
            self.prune([("copy", 0, 5), line], [line], ("leave", 0))

    def test_a_line_that_reads_what_it_writes(self):
        for line in (("compute", "i32.eqz", 0, (0,)), ("choose", 0, 0, 1, 1), ("load", "i32.load", 0, 0, 0)):
            self.prune([("const", 0, 4), line], [("const", 0, 4), line], ("leave", 0))

    def test_a_line_that_is_left_out_reads_nothing(self):
        self.prune([("const", 8, 4), ("copy", 9, 8), ("const", 0, 1)], [("const", 0, 1)], ("leave", 0))
        self.prune([("const", 8, 4), ("copy", 9, 8), ("copy", 9, 7), ("set", 0, 9)], [("copy", 9, 7), ("set", 0, 9)], ("leave", 0))

    def test_indexes_are_no_registers(self):
        self.prune([("const", 9, 1), ("get", 0, 9), ("set", 9, 0), ("load", "i32.load", 9, 0, 0)], [("get", 0, 9), ("set", 9, 0), ("load", "i32.load", 9, 0, 0)],
                   ("leave", 0))


class Improve(unittest.TestCase):
    def test_one_after_another(self):
        lines = (("copy", 2, 0), ("const", 3, 1), ("const", 4, 2), ("compute", "i32.add", 3, (3, 4)), ("compute", "i32.add", 2, (2, 3)), ("copy", 1, 2),
                 ("skip",), ("const", 3, 1))
        block = (0, 0, 9, lines, ("if", 3, (5, ()), (7, ())))
        heights = (0,) * 10
        self.assertEqual(fold(block)[3:], (
            (("copy", 2, 0), ("const", 3, 1), ("const", 4, 2), ("const", 3, 3), ("compute", "i32.add", 2, (2, 3)), ("copy", 1, 2), ("skip",), ("const", 3, 1)),
            ("go", 5, ())))
        self.assertEqual(improve(block, heights, 2), (
            0, 0, 9, (("const", 3, 3), ("compute", "i32.add", 2, (0, 3)), ("copy", 1, 2)), ("go", 5, ())))
        self.assertEqual(improve(block, heights, 2), prune(copies(fold(block)), heights, 2))

    def test_the_order_matters(self):
        # Folding makes a copy of a choose, and the copy is pruned then.
        block = (0, 0, 4, (("const", 3, 1), ("choose", 2, 3, 0, 1), ("set", 0, 2)), ("leave", 3))
        self.assertEqual(improve(block, (0,) * 5, 2), (0, 0, 4, (("set", 0, 0),), ("leave", 3)))

    def test_of_a_function(self):
        module = parse("""(module (func (param i32) (result i32) (local i32) local.get 0 i32.const 2 i32.const 3 i32.mul i32.add local.tee 1 drop
                          i32.const 0 if (result i32) local.get 0 else local.get 1 end))""")
        improved, heights = fast_entry(module, 0)
        self.assertEqual(heights, heights_of(module, 0))
        self.assertEqual(improved, {
            0: (0, 0, 9, (("const", 3, 6), ("compute", "i32.add", 2, (0, 3)), ("copy", 1, 2)), ("go", 11, ())),
            9: (9, 0, 2, (("copy", 2, 0),), ("go", 13, ())), 11: (11, 0, 2, (("copy", 2, 1),), ("go", 13, ())), 13: (13, 1, 0, (), ("leave", 13))})
        self.assertEqual(list(improved), [block[0] for block in blocks(module, 0)])


if __name__ == "__main__":
    unittest.main()

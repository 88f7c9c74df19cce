"""The rows of points 604 to 606 and their traps, one step each."""
import unittest

from machines import finished, picture, started, stepped
from wasmhost.machine.outside import begin
from wasmhost.machine.state import MOST_FRAMES, Frame, Machine
from wasmhost.machine.step import run, step
from wasmhost.numbers import INSTRUCTIONS, calculate, signature_of
from wasmhost.store import Store

A, B = "i32", "i64"

FIELDS = """(module (type $a (func (param i32 i64) (result i64))) (memory 1) (global $g (mut i64) (i64.const 40)) (global i32 (i32.const 9))
"""


class State(unittest.TestCase):
    def test_machine(self):
        store = Store()
        machine = Machine(store)
        self.assertIs(machine.store, store)
        self.assertEqual((machine.frames, machine.status, machine.spent), ([], ("finished", ()), 0))
        self.assertIsNot(Machine(store).frames, machine.frames)

    def test_frame(self):
        slots, stack = [1], [2]
        frame = Frame(3, 4, 5, slots, stack)
        self.assertEqual(vars(frame), {"func": 3, "instance": 4, "place": 5, "slots": [1], "stack": [2]})
        self.assertIs(frame.slots, slots)
        self.assertIs(frame.stack, stack)

    def test_most_frames(self):
        self.assertEqual(MOST_FRAMES, 64)


class Case(unittest.TestCase):
    def rows(self, code, *expected, head="(local i32 i64)", arguments=()):
        """Each row gives the place, the stack and the locals behind one more step. A row may leave out the locals."""
        machine = started(FIELDS + "(func " + head + " " + code + "))", arguments)
        self.assertEqual(machine.spent, 0)
        for count, row in enumerate(expected, 1):
            self.assertIs(step(machine), True)
            frame, = machine.frames
            self.assertEqual((frame.place, frame.stack), row[:2], (code, count))
            if len(row) > 2:
                self.assertEqual(frame.slots, row[2])
            self.assertEqual((machine.status, machine.spent, frame.func, frame.instance), (("running",), count, 0, 0))
        return machine

    def last(self, code, stack):
        """Gives the stack behind the last step of a straight code."""
        machine = started(FIELDS + "(func " + code + " unreachable))")
        count = len(machine.store.instances[0].codes[0]) - 2
        stepped(machine, count)
        self.assertEqual((machine.frames[0].stack, machine.frames[0].place), (stack, count), code)

    def traps(self, machine, reason):
        """The next step traps and leaves the frames and the store as they were."""
        before = picture(machine)
        self.assertIs(step(machine), True)
        self.assertEqual((machine.status, machine.spent), (("trapped", reason), before[2] + 1))
        after = picture(machine)
        self.assertEqual(after[0], before[0])
        self.assertEqual(after[3:], before[3:])
        self.assertIs(step(machine), False)
        self.assertEqual(picture(machine), after)


class Rows(Case):
    def test_constants_drop_and_nop(self):
        self.rows("i32.const -5 nop i64.const 7 drop unreachable", (1, [-5]), (2, [-5]), (3, [-5, 7]), (4, [-5]))

    def test_locals(self):
        self.rows("local.get 1 local.get 0 local.set 2 i32.const 4 local.tee 0 local.get 0 unreachable",
                  (1, [60], [3, 60, 0, 0]), (2, [60, 3], [3, 60, 0, 0]), (3, [60], [3, 60, 3, 0]), (4, [60, 4], [3, 60, 3, 0]),
                  (5, [60, 4], [4, 60, 3, 0]), (6, [60, 4, 4], [4, 60, 3, 0]),
                  head="(param i32 i64) (local i32 i64)", arguments=(3, 60))

    def test_globals(self):
        machine = self.rows("global.get 0 global.get 1 i64.const -1 global.set 0 global.get 0 unreachable",
                            (1, [40]), (2, [40, 9]), (3, [40, 9, -1]), (4, [40, 9]), (5, [40, 9, -1]))
        self.assertEqual([row.value for row in machine.store.variables], [-1, 9])

    def test_select(self):
        for condition, value in ((0, 6), (1, 5), (-1, 5), (-2147483648, 5), (2, 5)):
            self.rows("i32.const 5 i32.const 6 i32.const " + str(condition) + " select unreachable",
                      (1, [5]), (2, [5, 6]), (3, [5, 6, condition]), (4, [value]))

    def test_numeric_instructions(self):
        for name in INSTRUCTIONS:
            params, _ = signature_of(name)
            for operands in ((7, 3), (-7, 2), (-1, 31), (100, -5)):
                operands = operands[:len(params)]
                code = " ".join(kind + ".const " + str(value) for kind, value in zip(params, operands))
                self.last("i64.const 1 " + code + " " + name, [1, calculate(name, operands)])

    def test_numeric_traps(self):
        for kind in (A, B):
            low = -2 ** 31 if kind == A else -2 ** 63
            cases = [("div_s", 5, 0, "integer divide by zero"), ("div_u", 5, 0, "integer divide by zero"), ("rem_s", 0, 0, "integer divide by zero"),
                     ("rem_u", 1, 0, "integer divide by zero"), ("div_s", low, -1, "integer overflow"), ("div_s", low, 0, "integer divide by zero")]
            for word, a, b, reason in cases:
                machine = started(FIELDS + "(func i32.const 9 {0}.const {1} {0}.const {2} {0}.{3} unreachable))".format(kind, a, b, word))
                stepped(machine, 3)
                self.traps(machine, reason)

    def test_unreachable(self):
        machine = started(FIELDS + "(func (local i32) i32.const 3 local.set 0 i64.const 1 unreachable))")
        stepped(machine, 3)
        self.traps(machine, "unreachable")
        self.assertEqual(machine.frames[0].place, 3)

    def test_blocks(self):
        for name in ("block", "loop", "try_table"):
            self.rows("i32.const 1 " + name + " nop end unreachable", (1, [1]), (2, [1]), (3, [1]), (4, [1]))
        self.rows("i32.const 8 i32.const 1 i64.const 2 block (type 0) drop drop i64.const 3 end unreachable",
                  (1, [8]), (2, [8, 1]), (3, [8, 1, 2]), (4, [8, 1, 2]), (5, [8, 1]), (6, [8]), (7, [8, 3]), (8, [8, 3]))

    def test_if(self):
        code = "i64.const 4 i32.const {} if (result i32) i32.const 5 nop else i32.const 6 end unreachable"
        # The places: 2 if, 3 and 4 and the end 5, then 6 and the end 7, then 8.
        for condition in (1, -1, 2147483647):
            self.rows(code.format(condition), (1, [4]), (2, [4, condition]), (3, [4]), (4, [4, 5]), (5, [4, 5]), (8, [4, 5]))
        self.rows(code.format(0), (1, [4]), (2, [4, 0]), (6, [4]), (7, [4, 6]), (8, [4, 6]))

    def test_if_without_else(self):
        self.rows("i32.const 0 if nop end unreachable", (1, [0]), (4, []), (5, []))
        self.rows("i32.const 3 if nop end unreachable", (1, [3]), (2, []), (3, []), (5, []))

    def test_the_end_of_the_function(self):
        self.assertEqual(finished("(module (func (result i32) i32.const 5))"), (("finished", (5,)), 2))
        self.assertEqual(finished("(module (func))"), (("finished", ()), 1))
        self.assertEqual(finished("(module (func (result i64 i32) i64.const 5 i32.const 6))"), (("finished", (5, 6)), 3))

    def test_return(self):
        self.assertEqual(finished("(module (func (result i64 i32) i32.const 1 i32.const 2 i64.const 3 i32.const 4 return))"),
                         (("finished", (3, 4)), 5))
        self.assertEqual(finished("(module (func i32.const 1 block i32.const 2 return end drop))"), (("finished", ()), 4))


class Branches(Case):
    def test_br(self):
        self.rows("block br 0 end unreachable", (1, []), (3, []))
        self.rows("i32.const 9 block (result i32) i64.const 1 i64.const 2 i32.const 3 br 0 end unreachable",
                  (1, [9]), (2, [9]), (3, [9, 1]), (4, [9, 1, 2]), (5, [9, 1, 2, 3]), (7, [9, 3]))

    def test_several_values(self):
        self.rows("i32.const 9 block (result i32 i64) i64.const 7 i32.const 8 i64.const 6 br 0 end unreachable",
                  (1, [9]), (2, [9]), (3, [9, 7]), (4, [9, 7, 8]), (5, [9, 7, 8, 6]), (7, [9, 8, 6]))

    def test_values_that_stay_where_they_are(self):
        self.rows("block (result i32) i32.const 3 br 0 end unreachable", (1, []), (2, [3]), (4, [3]))

    def test_to_a_loop(self):
        # The loop has one parameter and is carried out again.
        self.rows("i64.const 5 i32.const 1 loop (param i32) i64.const 2 i32.const 3 br 0 end unreachable",
                  (1, [5]), (2, [5, 1]), (3, [5, 1]), (4, [5, 1, 2]), (5, [5, 1, 2, 3]), (2, [5, 3]), (3, [5, 3]), (4, [5, 3, 2]))

    def test_over_several_blocks(self):
        self.rows("i32.const 4 block block loop i64.const 1 br 2 end end unreachable end unreachable",
                  (1, [4]), (2, [4]), (3, [4]), (4, [4]), (5, [4, 1]), (10, [4]))

    def test_br_if(self):
        code = "i32.const 7 block (result i64) i32.const 1 i64.const 2 i32.const {} br_if 0 unreachable end unreachable"
        self.rows(code.format(0), (1, [7]), (2, [7]), (3, [7, 1]), (4, [7, 1, 2]), (5, [7, 1, 2, 0]), (6, [7, 1, 2]))
        for condition in (1, -1, -2147483648):
            self.rows(code.format(condition), (1, [7]), (2, [7]), (3, [7, 1]), (4, [7, 1, 2]), (5, [7, 1, 2, condition]), (8, [7, 2]))

    def test_br_table(self):
        code = "block $a block $b block $c i32.const 5 i32.const {} br_table $a $b $c end unreachable end unreachable end unreachable"
        # The places: 3 and 4 constants, 5 br_table, 6 end of $c, 7, 8 end of $b, 9, 10 end of $a, 11.
        for index, place in ((0, 11), (1, 9), (2, 7), (3, 7), (100, 7), (-1, 7), (-2147483648, 7), (2147483647, 7)):
            self.rows(code.format(index), (1, []), (2, []), (3, []), (4, [5]), (5, [5, index]), (place, []))

    def test_br_table_with_one_exit(self):
        for index in (0, 1, -1):
            self.rows("block (result i32) i32.const 5 i32.const 6 i32.const " + str(index) + " br_table 0 end unreachable",
                      (1, []), (2, [5]), (3, [5, 6]), (4, [5, 6, index]), (6, [6]))

    def test_br_table_with_values(self):
        code = "i64.const 1 block $a (result i32) i64.const 2 loop $b (param i64) i32.const 3 i32.const {} br_table $a $a end unreachable end unreachable"
        self.rows(code.format(0), (1, [1]), (2, [1]), (3, [1, 2]), (4, [1, 2]), (5, [1, 2, 3]), (6, [1, 2, 3, 0]), (10, [1, 3]))

    def test_the_outermost_label(self):
        result = ("finished", (6,))
        self.assertEqual(finished("(module (func (result i32) i32.const 5 block i32.const 6 br 1 end))"), (result, 4))
        self.assertEqual(finished("(module (func (result i32) i32.const 5 block i32.const 6 i32.const 1 br_if 1 drop end))"), (result, 5))
        self.assertEqual(finished("(module (func (result i32) i32.const 5 i32.const 6 i32.const 0 br_if 0 drop))"), (("finished", (5,)), 6))
        for index in (0, 1, 7):
            text = "(module (func (result i32) block (result i32) i32.const 6 i32.const " + str(index) + " br_table 1 0 1 end i32.const 1 i32.add))"
            expected = ((("finished", (7,)), 7) if index == 1 else (result, 4))
            self.assertEqual(finished(text), expected)


class Running(unittest.TestCase):
    LOOP = "(module (func (param i32) (result i32) loop local.get 0 i32.const 1 i32.sub local.tee 0 br_if 0 end local.get 0))"

    def test_a_machine_that_is_not_running(self):
        for status in (("finished", ()), ("finished", (1,)), ("trapped", "unreachable"), ("thrown", 0, ()), ("asks", 0, ())):
            machine = Machine(Store())
            machine.status = status
            before = picture(machine)
            self.assertIs(step(machine), False)
            self.assertEqual(run(machine, 10), 0)
            self.assertEqual(picture(machine), before)

    def test_no_steps(self):
        machine = started(self.LOOP, (3,))
        before = picture(machine)
        self.assertEqual(run(machine, 0), 0)
        self.assertEqual(picture(machine), before)

    def test_slices(self):
        whole = started(self.LOOP, (5,))
        self.assertEqual(run(whole, 1000), 33)
        self.assertEqual((whole.status, whole.spent, whole.frames), (("finished", (0,)), 33, []))
        for size in range(1, 40):
            machine = started(self.LOOP, (5,))
            taken = []
            while machine.status == ("running",):
                taken.append(run(machine, size))
            self.assertEqual((sum(taken), max(taken), picture(machine)), (33, min(size, 33), picture(whole)))
            self.assertTrue(all(count == size for count in taken[:-1]))

    def test_steps_and_runs_agree(self):
        for count in range(33):
            first, second = started(self.LOOP, (5,)), started(self.LOOP, (5,))
            self.assertEqual(run(first, count), count)
            stepped(second, count)
            self.assertEqual(picture(first), picture(second))

    def test_exactly_to_the_end(self):
        machine = started(self.LOOP, (5,))
        self.assertEqual(run(machine, 32), 32)
        self.assertEqual(machine.status, ("running",))
        self.assertEqual(run(machine, 1), 1)
        self.assertEqual(machine.status, ("finished", (0,)))
        self.assertEqual(run(machine, 1), 0)

    def test_spent_goes_on(self):
        machine = started("(module (func nop))")
        run(machine, 10)
        begin(machine, 0, ())
        self.assertEqual(machine.spent, 2)
        run(machine, 10)
        self.assertEqual(machine.spent, 4)

    def test_a_trap_counts_as_a_step(self):
        machine = started("(module (func nop unreachable))")
        self.assertEqual(run(machine, 10), 2)
        self.assertEqual((machine.spent, machine.frames[0].place), (2, 1))


if __name__ == "__main__":
    unittest.main()

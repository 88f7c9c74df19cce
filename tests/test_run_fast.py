"""Doing blocks and running fast (points 808 to 810)."""
import unittest

from machines import linked, picture, started, stepped, twin
from wasmhost.fast.lower import blocks
from wasmhost.fast.run import do_block, fast_entry, heights_of, run_fast
from wasmhost.machine.outside import begin
from wasmhost.machine.state import Machine
from wasmhost.machine.step import run

PAGE = 65536


def module_of(machine, instance=0):
    return machine.store.instances[instance].module


def entry(machine, func=0):
    """What makes a function of the first instance fast, for a store in which it has the same number."""
    return {func: fast_entry(module_of(machine), func)}


class Blocks(unittest.TestCase):
    def does(self, text, arguments=(), steps=0, improved=False):
        """Does the block at which the machine stands, and compares it with single steps."""
        machine = stepped(started(text, arguments), steps)
        module = module_of(machine)
        place = machine.frames[0].place
        block = next(block for block in blocks(module, 0) if block[0] == place)
        if improved:
            block = fast_entry(module, 0)[0][place]
        other = twin(machine)
        self.assertEqual(run(other, block[2]), block[2])
        self.assertIs(do_block(machine, block, heights_of(module, 0)), True)
        self.assertEqual(picture(machine), picture(other))
        return machine

    def test_each_line(self):
        text = """(module (memory 2) (global $g (mut i64) (i64.const 5)) (func (param i32 i64) (local i32) nop local.get 0 local.set 2 global.get $g i64.const 3
                  i64.add global.set $g i32.const 8 local.get 0 i32.store i32.const 9 i64.load8_u local.set 1 memory.size local.tee 0 i32.const 70 local.get 2 select
                  local.set 2 i32.const 1 drop))"""
        for improved in (False, True):
            for value in (0, 1, -1, 70000):
                machine = self.does(text, (value, 7), 0, improved)
                self.assertEqual((machine.frames[0].place, machine.spent), (21, 21))
                self.assertEqual(machine.store.variables[0].value, 8)

    def test_the_stack_stays_below(self):
        for improved in (False, True):
            machine = self.does("(module (func i64.const 9 i32.const 8 block i32.const 7 i32.const 6 i32.add drop end drop drop))", (), 3, improved)
            self.assertEqual((machine.frames[0].place, machine.frames[0].stack, machine.spent), (8, [9, 8], 8))

    def test_exits(self):
        for condition, place in ((0, 6), (1, 3), (-1, 3)):
            machine = self.does("(module (func (param i32) i32.const 20 local.get 0 if i32.const 1 drop else i32.const 2 drop end drop))", (condition,))
            self.assertEqual((machine.frames[0].place, machine.frames[0].stack), (place, [20]))
        text = """(module (func (param i32) (result i32) i64.const 9 block (result i32) block (result i32) i32.const 3 i32.const 4 local.get 0 br_table 0 1 0 end
                  unreachable end unreachable))"""
        for index, place in ((0, 8), (1, 10), (2, 8), (7, 8), (-1, 8), (-2 ** 31, 8)):
            machine = self.does(text, (index,), 3)
            self.assertEqual((machine.frames[0].place, machine.frames[0].stack), (place, [9, 4]))

    def test_moves_are_read_first(self):
        # The values of the branch are moved down by one register: one that is read is written, too.
        machine = self.does("(module (func block (result i32 i64 i32) i32.const 1 i32.const 2 i64.const 3 i32.const 4 br 0 end unreachable))", (), 1)
        self.assertEqual(machine.frames[0].stack, [2, 3, 4])

    def test_moves_of_a_written_block(self):
        machine = started("(module (func (param i32 i32) block (result i32 i32) unreachable end unreachable))", (5, 6))
        self.assertIs(do_block(machine, (0, 0, 4, (), ("go", 3, ((0, 1), (1, 0), (2, 1), (3, 0)))), heights_of(module_of(machine), 0)), True)
        self.assertEqual((vars(machine.frames[0])["slots"], machine.frames[0].stack, machine.frames[0].place, machine.spent), ([6, 5], [6, 5], 3, 4))

    def test_leaving(self):
        machine = self.does("(module (func i32.const 5 i32.const 6 i32.add unreachable))")
        self.assertEqual((machine.frames[0].place, machine.frames[0].stack, machine.spent), (3, [11], 3))

    def test_a_block_of_cost_0(self):
        machine = self.does("(module (func unreachable))")
        self.assertEqual((machine.frames[0].place, machine.spent), (0, 0))

    def test_other_frames_stay(self):
        machine = started("(module (func i32.const 5 call 1 drop) (func (param i32) (result i32) local.get 0 i32.const 1 i32.add))")
        run(machine, 2)
        before = picture(machine)[0][0]
        self.assertIs(do_block(machine, blocks(module_of(machine), 1)[0], heights_of(module_of(machine), 1)), True)
        self.assertEqual((picture(machine)[0][0], machine.frames[1].stack, machine.frames[1].place), (before, [6], 3))

    def test_the_memory_and_the_globals_of_the_frame(self):
        store = linked("(module (memory 1) (global $g (mut i32) (i32.const 1)))")
        linked("""(module (import "" "m" (memory 1)) (import "" "g" (global $h (mut i32))) (global $x (mut i32) (i32.const 2))
                  (func i32.const 0 global.get $h i32.store8 i32.const 7 global.set $x memory.size global.set $h))""", store, (0, 0))
        machine = Machine(store)
        begin(machine, 0, ())
        module = module_of(machine, 1)
        self.assertIs(do_block(machine, blocks(module, 0)[0], heights_of(module, 0)), True)
        self.assertEqual((store.memories[0].cells, [row.value for row in store.variables]), ({0: 1}, [1, 7]))


class Failing(unittest.TestCase):
    """A line in the middle cannot be done: nothing changes."""

    FRONT = """i32.const 0 i32.const 77 i32.store i32.const 1 i64.const -1 i64.store i32.const 2 i32.const 0 i32.store8 i64.const 9 global.set $g i64.const 10
               global.set $g i32.const 5 local.set 0 """

    def test_traps(self):
        for code in ("i32.const 1 i32.const 0 i32.div_s drop", "i32.const -2147483648 i32.const -1 i32.div_s drop", "i64.const 1 i64.const 0 i64.rem_u drop",
                     "i32.const 65533 i32.load drop", "i32.const -1 i64.load8_s drop", "i32.const 65536 i32.const 0 i32.store8", "i32.const 0 i64.load offset=65529 drop"):
            text = "(module (memory 1) (global $g (mut i64) (i64.const 3)) (func (local i32) " + self.FRONT + code + " nop unreachable))"
            for improved in (False, True):
                machine = started(text)
                machine.store.memories[0].write(1, [6, 0, 6])
                module = module_of(machine)
                block = fast_entry(module, 0)[0][0] if improved else blocks(module, 0)[0]
                before = picture(machine)
                self.assertIs(do_block(machine, block, heights_of(module, 0)), False)
                self.assertEqual(picture(machine), before, code)
                # Single steps go up to the trap instead.
                other = twin(machine)
                self.assertEqual(run_fast(machine, 100, entry(machine), []), run(other, 100))
                self.assertEqual(picture(machine), picture(other))
                self.assertEqual(machine.status[0], "trapped")


class Running(unittest.TestCase):
    # Place 0 is the loop; a block of the cost 7 begins behind it.
    TEXT = """(module (func (param i32) (result i32) loop local.get 0 i32.const 1 i32.sub local.tee 0 i32.const 0 i32.ne br_if 0 end local.get 0)
    (func (param i32) (result i32) local.get 0 call 0))"""

    def machines(self, value=5, func=0):
        first = started(self.TEXT, (value,), func)
        return first, twin(first)

    def test_all_numbers_of_steps(self):
        for steps in range(60):
            first, second = self.machines()
            self.assertEqual(run_fast(first, steps, entry(first), []), run(second, steps))
            self.assertEqual(picture(first), picture(second))

    def test_too_few_steps_for_a_block(self):
        for steps in range(1, 8):
            first, second = self.machines()
            run_fast(first, 1, entry(first), [])
            self.assertEqual(run_fast(first, steps, entry(first), []), steps)
            run(second, 1 + steps)
            self.assertEqual(picture(first), picture(second))

    def test_no_steps(self):
        first, second = self.machines()
        for steps in (0, -1):
            self.assertEqual(run_fast(first, steps, entry(first), [(0, 0)]), 0)
        self.assertEqual(picture(first), picture(second))

    def test_a_machine_that_is_not_running(self):
        first, _ = self.machines()
        run(first, 1000)
        before = picture(first)
        self.assertEqual(run_fast(first, 10, entry(first), []), 0)
        self.assertEqual(picture(first), before)

    def places_of(self, stops, fast=True, func=0, steps=1000, value=3):
        """The places and step counts where runs pause, up to the end."""
        machine, _ = self.machines(value, func)
        entries = {each: fast_entry(module_of(machine), each) for each in (0, 1)} if fast else {}
        found = []
        while machine.status == ("running",):
            taken = run_fast(machine, steps, entries, stops)
            found.append((taken, machine.spent, [(frame.func, frame.place) for frame in machine.frames]))
        return found

    def test_breakpoints(self):
        # In front of, at, behind and inside of each block, also of the other function, and several at once.
        for stops in [[(func, place)] for func in (0, 1) for place in range(11)] + [[(0, 3), (0, 8)], [(0, 1), (1, 2)], [(0, 0), (0, 1), (0, 2), (0, 10)], [(5, 0)], []]:
            for func in (0, 1):
                for steps in (1000, 1, 4, 9):
                    self.assertEqual(self.places_of(stops, True, func, steps), self.places_of(stops, False, func, steps), (stops, func, steps))

    def test_a_breakpoint_at_the_first_row_of_a_block(self):
        found = self.places_of([(0, 1)])
        self.assertEqual([row[:2] for row in found], [(1, 1), (8, 9), (8, 17), (10, 27)])

    def test_a_breakpoint_behind_the_first_row_of_a_block(self):
        found = self.places_of([(0, 4)])
        self.assertEqual([row[:2] for row in found], [(4, 4), (8, 12), (8, 20), (7, 27)])

    def test_a_breakpoint_of_another_function(self):
        self.assertEqual([row[:2] for row in self.places_of([(1, 4)])], [(27, 27)])

    def test_a_breakpoint_at_the_exit(self):
        self.assertEqual([row[:2] for row in self.places_of([(0, 7)])], [(7, 7), (8, 15), (8, 23), (4, 27)])

    def test_the_arguments_stay(self):
        machine, _ = self.machines()
        entries = entry(machine)
        stops = [(0, 3), (0, 1)]
        before = repr((entries, stops))
        run_fast(machine, 30, entries, stops)
        self.assertEqual(repr((entries, stops)), before)

    def test_blocks_are_done(self):
        # A block that is wrong shows that it is done, and when it is not.
        wrong = {0: ({1: (1, 0, 7, (("const", 0, 99),), ("go", 9, ()))}, heights_of(module_of(self.machines()[0]), 0))}
        for steps, stops, place, value in ((8, [], 9, 99), (7, [], 7, 4), (8, [(0, 2)], 2, 5), (8, [(0, 7)], 7, 4), (8, [(0, 1)], 1, 5), (8, [(0, 8)], 9, 99),
                                           (8, [(1, 3)], 9, 99)):
            machine, _ = self.machines()
            run_fast(machine, steps, wrong, stops)
            self.assertEqual((machine.frames[0].place, machine.frames[0].slots), (place, [value]), (steps, stops))
        machine, _ = self.machines()
        run_fast(machine, 1, wrong, [(0, 1)])
        self.assertEqual(run_fast(machine, 7, wrong, [(0, 1)]), 7)
        self.assertEqual((machine.frames[0].slots, machine.frames[0].place, machine.spent), ([99], 9, 8))

    def test_other_functions_run_plainly(self):
        wrong = {1: ({1: (1, 0, 7, (("const", 0, 99),), ("go", 9, ()))}, heights_of(module_of(self.machines()[0]), 0))}
        machine, other = self.machines()
        run_fast(machine, 20, wrong, [])
        run(other, 20)
        self.assertEqual(picture(machine), picture(other))

    def test_a_breakpoint_at_the_row_where_a_block_leaves(self):
        text = "(module (func (local i32) i32.const 1 local.set 0 call 1) (func))"
        machine = started(text)
        self.assertEqual(run_fast(machine, 10, entry(machine), [(0, 2)]), 2)
        self.assertEqual((machine.frames[0].place, machine.frames[0].slots), (2, [1]))
        wrong = {0: ({0: (0, 0, 2, (("const", 0, 99),), ("leave", 2))}, heights_of(module_of(machine), 0))}
        for stops, value in (([(0, 2)], 1), ([(0, 1)], 0), ([(0, 3)], 99), ([(1, 2)], 99), ([(0, 0)], 99)):
            machine = started(text)
            run_fast(machine, 2, wrong, stops)
            self.assertEqual(machine.frames[0].slots, [value], stops)


if __name__ == "__main__":
    unittest.main()

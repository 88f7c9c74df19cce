"""Calls and returns (points 607 to 609), one step each."""
import unittest

from machines import finished, linked, picture, started, stepped
from wasmhost.link import add_host
from wasmhost.machine.outside import answer, at_place, begin
from wasmhost.machine.state import Machine
from wasmhost.machine.step import run, step
from wasmhost.store import Store

A, B = "i32", "i64"


def frames(machine):
    """The frames, the innermost last."""
    return [(frame.func, frame.instance, frame.place, frame.slots, frame.stack) for frame in machine.frames]


class Case(unittest.TestCase):
    def traps(self, machine, reason):
        before = picture(machine)
        self.assertIs(step(machine), True)
        after = picture(machine)
        self.assertEqual((machine.status, machine.spent), (("trapped", reason), before[2] + 1))
        self.assertEqual((after[0], after[3:]), (before[0], before[3:]))


class Calls(Case):
    TEXT = """(module (func $main (result i64) i32.const 9 i64.const 5 i32.const 6 call $twice drop drop drop i64.const 1)
    (func $twice (param i64 i32) (result i32 i64) (local i32 i64 i64) i32.const 100 local.get 1 local.get 0 return))"""

    def test_arguments_locals_and_results(self):
        machine = stepped(started(self.TEXT), 4)
        self.assertEqual(frames(machine), [(0, 0, 4, [], [9]), (1, 0, 0, [5, 6, 0, 0, 0], [])])
        self.assertEqual((machine.status, machine.spent, at_place(machine)), (("running",), 4, (1, 0)))
        stepped(machine, 3)
        self.assertEqual(frames(machine), [(0, 0, 4, [], [9]), (1, 0, 3, [5, 6, 0, 0, 0], [100, 6, 5])])
        stepped(machine, 1)
        self.assertEqual(frames(machine), [(0, 0, 4, [], [9, 6, 5])])

    def test_by_return_and_by_branch(self):
        for code in ("i32.const 6", "i32.const 5 i32.const 6 return", "i32.const 5 i32.const 6 br 0", "i32.const 6 i32.const 1 br_if 0",
                     "i32.const 5 block i32.const 6 i32.const 4 br_table 1 1 end unreachable", "i32.const 5 i32.const 6 i32.const 4 br_table 0 0"):
            machine = started("(module (func (result i32 i32) i32.const 9 call 1) (func (result i32) " + code + "))")
            stepped(machine, 2)
            self.assertEqual(frames(machine), [(0, 0, 2, [], [9]), (1, 0, 0, [], [])])
            while len(machine.frames) == 2:
                step(machine)
            self.assertEqual(frames(machine), [(0, 0, 2, [], [9, 6])], code)

    def test_recursion(self):
        text = """(module (func $f (param i32) (result i32) local.get 0 i32.const 2 i32.lt_s if (result i32) local.get 0 else
                  local.get 0 i32.const 1 i32.sub call $f local.get 0 i32.const 2 i32.sub call $f i32.add end))"""
        for n, value in ((0, 0), (1, 1), (2, 1), (10, 55)):
            self.assertEqual(finished(text, (n,))[0], ("finished", (value,)))

    def test_an_imported_function(self):
        store = linked("(module (global $g (mut i32) (i32.const 0)) (func (param i32) local.get 0 global.set $g))")
        linked('(module (import "" "" (func (param i32))) (global (mut i32) (i32.const 7)) (func i32.const 5 call 0))', store, (0,))
        machine = Machine(store)
        begin(machine, 1, ())
        stepped(machine, 2)
        self.assertEqual(frames(machine), [(1, 1, 2, [], []), (0, 0, 0, [5], [])])
        run(machine, 100)
        self.assertEqual(([row.value for row in store.variables], machine.status), ([5, 7], ("finished", ())))

    def test_sixty_four_frames(self):
        machine = started("(module (func (param i32) i64.const 3 drop local.get 0 i32.const 1 i32.add call 0))", (1,))
        run(machine, 63 * 6)
        self.assertEqual(len(machine.frames), 64)
        self.assertEqual(frames(machine)[63], (0, 0, 0, [64], []))
        stepped(machine, 5)
        self.traps(machine, "call stack exhausted")
        self.assertEqual(len(machine.frames), 64)
        self.assertEqual(frames(machine)[63], (0, 0, 5, [64], [65]))

    def test_sixty_four_frames_are_allowed(self):
        text = "(module (func (param i32) (result i32) local.get 0 if (result i32) local.get 0 i32.const 1 i32.sub call 0 i32.const 1 i32.add else i32.const 0 end))"
        self.assertEqual(finished(text, (63,))[0], ("finished", (63,)))
        self.assertEqual(finished(text, (64,))[0], ("trapped", "call stack exhausted"))

    def test_by_call_indirect(self):
        machine = started("(module (type $t (func (param i32))) (table 1 funcref) (elem (i32.const 0) func 0) (func (param i32) i32.const 8 i32.const 0 call_indirect (type $t)))", (1,))
        stepped(machine, 63 * 3 + 2)
        self.assertEqual(len(machine.frames), 64)
        self.traps(machine, "call stack exhausted")
        self.assertEqual(machine.frames[63].stack, [8, 0])

    def test_a_host_function_from_the_last_frame(self):
        store = Store()
        add_host(store, (), ())
        machine = started("""(module (import "" "" (func)) (func (param i32) local.get 0 if local.get 0 i32.const 1 i32.sub call 1 end call 0))""", (63,), 1, (0,), store)
        while machine.status == ("running",):
            step(machine)
        self.assertEqual((machine.status, len(machine.frames)), (("asks", 0, ()), 64))

    def test_results_below_values_that_stay(self):
        self.assertEqual(finished("(module (func (result i32 i64 i32) i32.const 1 call 1) (func (result i64 i32) i64.const 2 i32.const 3))"),
                         (("finished", (1, 2, 3)), 6))


class Indirect(Case):
    TEXT = """(module (type $v (func)) (type $i (func (param i32) (result i32))) (type $j (func (param i32) (result i32))) (type $l (func (param i64) (result i32)))
    (table $s 1 funcref) (table $t 4 funcref) (elem (table $t) (i32.const 0) func $f $g) (elem (table $t) (i32.const 3) func $h)
    (func $f (type $i) local.get 0 i32.const 1 i32.add) (func $g (type $j) local.get 0 i32.const 2 i32.add) (func $h (type $v))
    (func $main (param i32) (result i32) i32.const 40 local.get 0 call_indirect $t (type $i)))"""

    def machine(self, index):
        return stepped(started(self.TEXT, (index,), 3), 2)

    def test_calls(self):
        for index, value in ((0, 41), (1, 42)):
            machine = self.machine(index)
            step(machine)
            self.assertEqual(frames(machine), [(3, 0, 3, [index], []), (index, 0, 0, [40], [])])
            run(machine, 100)
            self.assertEqual(machine.status, ("finished", (value,)))

    def test_traps(self):
        for index in (4, 5, 2147483647, -1, -2147483648):
            self.traps(self.machine(index), "undefined element")
        self.traps(self.machine(2), "uninitialized element")
        self.traps(self.machine(3), "indirect call mismatch")

    def test_another_table(self):
        machine = started(self.TEXT.replace("call_indirect $t", "call_indirect $s"), (0,), 3)
        stepped(machine, 2)
        self.traps(machine, "uninitialized element")
        machine = started(self.TEXT.replace("call_indirect $t", "call_indirect"), (1,), 3)
        stepped(machine, 2)
        self.traps(machine, "undefined element")

    def test_results_count_too(self):
        text = "(module (type $a (func)) (table 1 funcref) (elem (i32.const 0) func 0) (func (result i32) i32.const 1) (func i32.const 0 call_indirect (type $a)))"
        self.traps(stepped(started(text, (), 1), 1), "indirect call mismatch")

    def test_signatures_of_other_instances(self):
        # Equal signatures with other indexes fit, whatever instance the function comes from.
        store = linked("(module (type (func (param i64))) (type (func)) (type (func (param i32) (result i32))) (table 2 funcref) (func (type 2) i32.const 77) (func (type 0)) (elem (i32.const 0) func 0 1))")
        linked('(module (type $a (func (param i32) (result i32))) (import "" "" (table 2 funcref)) (func (param i32) (result i32) i32.const 1 local.get 0 call_indirect (type $a)))', store, (0,))
        machine = Machine(store)
        begin(machine, 2, (0,))
        run(machine, 100)
        self.assertEqual(machine.status, ("finished", (77,)))
        begin(machine, 2, (1,))
        stepped(machine, 2)
        self.traps(machine, "indirect call mismatch")

    def test_the_entry_of_the_moment(self):
        machine = self.machine(2)
        machine.store.tables[1].entries[2] = 0
        run(machine, 100)
        self.assertEqual(machine.status, ("finished", (41,)))

    def test_a_host_function(self):
        store = Store()
        add_host(store, (), ())
        host = add_host(store, (B, A), (A,))
        text = """(module (type $a (func (param i64 i32) (result i32))) (table 1 funcref) (func (result i32) i32.const 9 i64.const 5 i32.const 6 i32.const 0 call_indirect (type $a) i32.add))"""
        machine = started(text, (), 2, (), store)
        store.tables[0].entries[0] = host
        stepped(machine, 5)
        self.assertEqual((machine.status, frames(machine), machine.spent), (("asks", 1, (5, 6)), [(2, 0, 5, [], [9])], 5))
        answer(machine, (1,))
        run(machine, 100)
        self.assertEqual(machine.status, ("finished", (10,)))


class Hosts(Case):
    def test_a_call(self):
        store = Store()
        for params in ((), (A, B)):
            add_host(store, params, (B, A))
        text = '(module (import "" "" (func (param i32 i64) (result i64 i32))) (func (result i64) i32.const 1 i32.const 2 i64.const -3 call 0 drop))'
        machine = started(text.replace("(result i64) i32", "(result i32 i64) i32"), (), 2, (1,), store)
        stepped(machine, 4)
        self.assertEqual((machine.status, frames(machine), machine.spent), (("asks", 1, (2, -3)), [(2, 0, 4, [], [1])], 4))
        self.assertIs(step(machine), False)
        self.assertEqual(run(machine, 5), 0)
        answer(machine, (7, 8))
        self.assertEqual((machine.status, frames(machine), machine.spent), (("running",), [(2, 0, 4, [], [1, 7, 8])], 4))
        run(machine, 100)
        self.assertEqual((machine.status, machine.spent), (("finished", (1, 7)), 6))

    def test_an_import_that_is_passed_on(self):
        # The function of the instance in the middle is imported and shown again.
        store = linked("(module (func (result i32) i32.const 3))")
        linked('(module (import "" "" (func (result i32))))', store, (0,))
        linked('(module (import "" "" (func (result i32))) (func (result i32) call 0))', store, (store.instances[1].functions[0],))
        machine = Machine(store)
        begin(machine, 1, ())
        run(machine, 10)
        self.assertEqual((machine.status, machine.spent), (("finished", (3,)), 4))


if __name__ == "__main__":
    unittest.main()

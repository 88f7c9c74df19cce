"""Calls from outside, answers, and places (points 615 and 616). Exceptions as answers: test_exceptions.py."""
import unittest

from machines import picture, started, stepped
from wasmhost.link import add_host
from wasmhost.machine.outside import answer, answer_trap, at_place, begin
from wasmhost.machine.state import Machine
from wasmhost.machine.step import run, step
from wasmhost.store import Store

A, B = "i32", "i64"

TEXT = """(module (import "" "h" (func $h (param i32 i64) (result i64 i32))) (func $f (param i32) (result i32) (local i64 i32) i32.const 9 i32.const 1
i64.const 2 call $h drop drop) (func $g i64.const 7 drop i32.const 3 call $f drop) (func $u i32.const 5 drop unreachable))"""


def machine_of():
    store = Store()
    add_host(store, (A, B), (B, A))
    machine = started(TEXT, (4,), 1, (0,), store)
    return machine


def frames(machine):
    return [(frame.func, frame.instance, frame.place, frame.slots, frame.stack) for frame in machine.frames]


class Begin(unittest.TestCase):
    def test_a_function_of_an_instance(self):
        machine = machine_of()
        self.assertEqual((machine.status, machine.spent, frames(machine)), (("running",), 0, [(1, 0, 0, [4, 0, 0], [])]))

    def test_a_host_function(self):
        machine = machine_of()
        run(machine, 2)
        self.assertIsNone(begin(machine, 0, (5, -6)))
        self.assertEqual((machine.status, machine.spent, frames(machine)), (("asks", 0, (5, -6)), 2, []))

    def test_all_frames_are_removed(self):
        machine = machine_of()
        begin(machine, 2, ())
        run(machine, 5)
        self.assertEqual(len(machine.frames), 2)
        begin(machine, 3, ())
        self.assertEqual((frames(machine), machine.spent), ([(3, 0, 0, [], [])], 5))
        run(machine, 100)
        self.assertEqual((machine.status, len(machine.frames), machine.spent), (("trapped", "unreachable"), 1, 8))
        begin(machine, 2, ())
        self.assertEqual((machine.status, frames(machine), machine.spent), (("running",), [(2, 0, 0, [], [])], 8))

    def test_the_arguments_stay_apart(self):
        machine = machine_of()
        machine.frames[0].slots[0] = 8
        begin(machine, 1, (4,))
        self.assertEqual(machine.frames[0].slots, [4, 0, 0])

    def test_the_store_stays(self):
        machine = machine_of()
        before = picture(machine)[3:]
        begin(machine, 0, (1, 2))
        begin(machine, 2, ())
        self.assertEqual(picture(machine)[3:], before)


class Answers(unittest.TestCase):
    def asking(self):
        machine = machine_of()
        begin(machine, 2, ())
        run(machine, 100)
        self.assertEqual((machine.status, machine.spent), (("asks", 0, (1, 2)), 8))
        self.assertEqual(frames(machine), [(2, 0, 4, [], []), (1, 0, 4, [3, 0, 0], [9])])
        return machine

    def test_values(self):
        machine = self.asking()
        self.assertIsNone(answer(machine, (50, 60)))
        self.assertEqual((machine.status, machine.spent), (("running",), 8))
        self.assertEqual(frames(machine), [(2, 0, 4, [], []), (1, 0, 4, [3, 0, 0], [9, 50, 60])])
        run(machine, 100)
        self.assertEqual((machine.status, machine.spent), (("finished", ()), 13))

    def test_values_without_a_frame(self):
        machine = machine_of()
        begin(machine, 0, (1, 2))
        answer(machine, (50, 60))
        self.assertEqual((machine.status, machine.spent, machine.frames), (("finished", (50, 60)), 0, []))
        self.assertIs(step(machine), False)

    def test_traps(self):
        machine = self.asking()
        before = picture(machine)
        self.assertIsNone(answer_trap(machine, "integer overflow"))
        self.assertEqual((machine.status, machine.spent), (("trapped", "integer overflow"), 8))
        self.assertEqual((picture(machine)[0], picture(machine)[3:]), (before[0], before[3:]))
        self.assertEqual(run(machine, 5), 0)

    def test_traps_without_a_frame(self):
        machine = machine_of()
        begin(machine, 0, (1, 2))
        answer_trap(machine, "unreachable")
        self.assertEqual((machine.status, machine.spent, machine.frames), (("trapped", "unreachable"), 0, []))

    def test_no_values(self):
        store = Store()
        add_host(store, (), ())
        machine = started('(module (import "" "h" (func)) (func call 0 i32.const 1 drop))', (), 1, (0,), store)
        stepped(machine, 1)
        answer(machine, ())
        self.assertEqual((machine.status, frames(machine)), (("running",), [(1, 0, 1, [], [])]))


class Places(unittest.TestCase):
    def test_at_place(self):
        machine = machine_of()
        self.assertIsNone(at_place(Machine(Store())))
        found = []
        begin(machine, 2, ())
        while machine.status == ("running",):
            found.append(at_place(machine))
            step(machine)
        self.assertEqual(found, [(2, 0), (2, 1), (2, 2), (2, 3), (1, 0), (1, 1), (1, 2), (1, 3)])
        self.assertEqual(at_place(machine), (1, 4))
        answer_trap(machine, "unreachable")
        self.assertEqual(at_place(machine), (1, 4))
        begin(machine, 0, (1, 2))
        self.assertIsNone(at_place(machine))

    def test_behind_a_trap(self):
        machine = machine_of()
        begin(machine, 3, ())
        run(machine, 100)
        self.assertEqual(at_place(machine), (3, 2))


if __name__ == "__main__":
    unittest.main()

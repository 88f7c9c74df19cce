"""throw, its catchers, and exceptions as answers (points 613, 616 and 617)."""
import unittest

from machines import finished, linked, picture, started, stepped
from wasmhost.link import add_host
from wasmhost.machine.outside import answer_throw, begin
from wasmhost.machine.state import Machine
from wasmhost.machine.step import run, step
from wasmhost.store import Store

A, B = "i32", "i64"

TAGS = "(tag $x) (tag $y (param i32)) (tag $z (param i64 i32)) "


def frames(machine):
    return [(frame.func, frame.place, frame.stack) for frame in machine.frames]


class Throws(unittest.TestCase):
    def ends(self, code, status, func=0):
        found, _ = finished("(module " + TAGS + code + ")", (), func)
        self.assertEqual(found, status, code)

    def test_no_catcher(self):
        machine = started("(module " + TAGS + "(func i32.const 9 i64.const 5 i32.const 6 throw $z))")
        stepped(machine, 3)
        self.assertIs(step(machine), True)
        self.assertEqual((machine.status, machine.frames, machine.spent), (("thrown", 2, (5, 6)), [], 4))

    def test_no_catcher_in_any_frame(self):
        machine = started("(module " + TAGS + "(func call 1) (func call 2) (func i32.const 4 throw $y))")
        run(machine, 100)
        self.assertEqual((machine.status, machine.frames, machine.spent), (("thrown", 1, (4,)), [], 4))

    def test_a_catcher(self):
        machine = started("(module " + TAGS + """(func (result i32) i32.const 7 block $b (result i64 i32) i32.const 8 try_table (catch $z $b) i32.const 9
                          i64.const 5 i32.const 6 throw $z end unreachable end unreachable))""")
        stepped(machine, 7)
        self.assertEqual(frames(machine), [(0, 7, [7, 8, 9, 5, 6])])
        stepped(machine, 1)
        # The values above the height of the block are dropped.
        self.assertEqual((frames(machine), machine.status, machine.spent), ([(0, 11, [7, 5, 6])], ("running",), 8))

    def test_catch_all(self):
        machine = started("(module " + TAGS + "(func i32.const 7 block $b i32.const 8 try_table (catch_all $b) i64.const 5 i32.const 6 throw $z end unreachable end unreachable))")
        stepped(machine, 7)
        self.assertEqual((frames(machine), machine.spent), ([(0, 10, [7])], 7))

    def test_a_catcher_for_a_loop(self):
        machine = started("(module " + TAGS + "(func i64.const 1 i32.const 2 loop $l (param i32) try_table (catch $y $l) i32.const 5 throw $y end drop end drop))")
        stepped(machine, 6)
        self.assertEqual(frames(machine), [(0, 2, [1, 5])])

    def test_the_outermost_label(self):
        self.ends("(func (result i32) i32.const 1 try_table (catch $y 0) i32.const 5 throw $y end)", ("finished", (5,)))
        self.ends("(func (result i32 i32) i32.const 1 call 1) (func (result i32) i32.const 2 try_table (catch $y 0) i32.const 5 throw $y end)", ("finished", (1, 5)))
        self.ends("(func try_table (catch_all 0) i32.const 5 throw $y end)", ("finished", ()))

    def test_the_innermost_first(self):
        code = "(func (result i32) block $a (result i32) block $b (result i32) try_table (catch $y $a) try_table (catch $y $b) i32.const 5 throw $y end end unreachable end i32.const 1 i32.add br 1 end i32.const 2 i32.add)"
        self.ends(code, ("finished", (6,)))
        self.ends(code.replace("(catch $y $b)", "(catch $x 1)").replace("block $b (result i32)", "block $b (result i32) block $c").replace(
            "(catch $x 1)", "(catch $x $c)").replace("end unreachable end i32.const 1", "end unreachable end unreachable end i32.const 1"), ("finished", (7,)))

    def test_the_order_in_one_try_table(self):
        code = "(func (result i32) block $all block $b (result i32) block $c (result i32) try_table CATCHES i32.const 5 throw $y end unreachable end i32.const 10 i32.add br 2 end i32.const 20 i32.add br 1 end i32.const 30)"
        for catches, value in (("(catch $y $b) (catch $y $c) (catch_all $all)", 25), ("(catch $y $c) (catch $y $b) (catch_all $all)", 15),
                               ("(catch_all $all) (catch $y $c)", 30), ("(catch $x $all) (catch $y $c)", 15)):
            self.ends(code.replace("CATCHES", catches), ("finished", (value,)))

    def test_other_tags_do_not_fit(self):
        self.ends("(func block $b try_table (catch $x $b) i32.const 5 throw $y end end)", ("thrown", 1, (5,)))
        self.ends("(func block $b try_table (catch $x $b) throw $x end unreachable end)", ("finished", ()))

    def test_equal_tags_differ(self):
        self.ends("(tag $w) (func block $b try_table (catch $w $b) throw $x end end)", ("thrown", 0, ()))

    def test_a_throw_outside_of_the_try_table(self):
        self.ends("(func block $b try_table (catch $x $b) end throw $x end)", ("thrown", 0, ()))

    def test_outer_frames(self):
        code = """(func $main (result i32) i64.const 1 block $b (result i32) i64.const 2 try_table (catch $y $b) i64.const 3 call $middle drop end unreachable end
                  i32.const 100 i32.add br 0) (func $middle i32.const 9 call $inner drop) (func $inner i32.const 8 i32.const 5 throw $y)"""
        machine = started("(module " + TAGS + code.replace("i32.const 100 i32.add br 0", "i32.const 100 i32.add return") + ")")
        stepped(machine, 10)
        self.assertEqual(frames(machine), [(0, 6, [1, 2, 3]), (1, 2, [9]), (2, 2, [8, 5])])
        stepped(machine, 1)
        self.assertEqual((frames(machine), machine.status, machine.spent), ([(0, 10, [1, 5])], ("running",), 11))
        run(machine, 100)
        self.assertEqual(machine.status, ("finished", (105,)))

    def test_the_catchers_of_the_call_count(self):
        # The place behind the call is outside of the try_table, or inside of it.
        self.ends("(func block $b try_table (catch $x $b) call 1 end unreachable end) (func throw $x)", ("finished", ()))
        self.ends("(func block $b call 1 try_table (catch $x $b) end unreachable end) (func throw $x)", ("thrown", 0, ()))
        self.ends("(func block $b try_table (catch $x $b) end call 1 end) (func throw $x)", ("thrown", 0, ()))

    def test_by_call_indirect(self):
        self.ends("(table 1 funcref) (elem (i32.const 0) func 1) (func block $b try_table (catch $x $b) i32.const 0 call_indirect end unreachable end) (func throw $x)",
                  ("finished", ()))

    def test_an_inner_frame_that_does_not_fit(self):
        self.ends("""(func (result i32) block $b (result i32) try_table (catch $y $b) call 1 end unreachable end)
                     (func block $c try_table (catch $x $c) call 2 end unreachable end) (func i32.const 4 throw $y)""", ("finished", (4,)))

    def test_the_frame_goes_on(self):
        self.ends("(func (result i32) (local i32) loop $l block $b try_table (catch_all $b) local.get 0 i32.const 1 i32.add local.tee 0 i32.const 3 i32.eq br_if 2 throw $x end unreachable end br 0 end local.get 0)"
                  .replace("br_if 2 throw", "br_if 3 drop throw").replace("local.tee 0 i32.const 3", "local.tee 0 local.get 0 i32.const 3"), ("finished", (3,)))


class Instances(unittest.TestCase):
    TEXT = "(module (tag $x (param i32)) (func (param i32) local.get 0 throw $x))"

    USER = """(module (import "" "x" (tag $x (param i32))) (import "" "f" (func (param i32))) (tag $own (param i32))
    (func (result i32) block $b (result i32) block $c (result i32) try_table (catch $own $c) (catch $x $b) i32.const 5 call 0 end unreachable end
    i32.const 100 i32.add end))"""

    def status(self, tag, func):
        store = linked(self.TEXT)
        linked(self.TEXT, store)
        linked(self.USER, store, (tag, func))
        machine = Machine(store)
        begin(machine, 2, ())
        run(machine, 100)
        return machine.status

    def test_tags_of_two_instances_of_a_module(self):
        for tag in (0, 1):
            for func in (0, 1):
                expected = ("finished", (5,)) if tag == func else ("thrown", func, (5,))
                self.assertEqual(self.status(tag, func), expected)

    def test_the_tags_of_the_frame_count(self):
        # The catcher's index 0 names another tag in the instance of the thrower.
        store = linked("(module (tag $a) (tag $b) (func throw $b))")
        linked('(module (import "" "b" (tag $b)) (import "" "f" (func)) (func block $l try_table (catch $b $l) call 0 end unreachable end))', store, (1, 0))
        machine = Machine(store)
        begin(machine, 1, ())
        run(machine, 100)
        self.assertEqual(machine.status, ("finished", ()))

    def test_an_imported_tag_is_thrown(self):
        store = linked("(module (tag) (tag (param i64)))")
        linked('(module (import "" "b" (tag (param i64))) (func i64.const 3 throw 0))', store, (1,))
        machine = Machine(store)
        begin(machine, 0, ())
        run(machine, 100)
        self.assertEqual(machine.status, ("thrown", 1, (3,)))


class Answers(unittest.TestCase):
    def machine(self, code, func=1):
        store = Store()
        add_host(store, (A,), (B,))
        text = '(module (import "" "h" (func $h (param i32) (result i64))) ' + TAGS + code + ")"
        machine = started(text, (), func, (0,), store)
        while machine.status == ("running",):
            step(machine)
        self.assertEqual(machine.status[0], "asks")
        return machine

    def answered(self, code, tag, values, func=1):
        machine = self.machine(code, func)
        before = machine.spent
        self.assertIsNone(answer_throw(machine, tag, values))
        self.assertEqual(machine.spent, before)
        return machine

    def test_no_frame(self):
        store = linked("(module " + TAGS + ")")
        machine = Machine(store)
        begin(machine, add_host(store, (), ()), ())
        self.assertEqual((machine.status, machine.frames), (("asks", 0, ()), []))
        answer_throw(machine, 2, (5, 6))
        self.assertEqual((machine.status, machine.frames, machine.spent), (("thrown", 2, (5, 6)), [], 0))

    def test_no_catcher(self):
        machine = self.answered("(func call 2) (func i32.const 1 call $h drop)", 1, (4,))
        self.assertEqual((machine.status, machine.frames), (("thrown", 1, (4,)), []))

    def test_the_innermost_frame(self):
        code = "(func (result i32) i64.const 9 block $b (result i32) i64.const 8 try_table (catch $y $b) i64.const 7 i32.const 1 call $h drop drop end unreachable end i32.const 3 i32.add return)"
        machine = self.answered(code, 1, (4,))
        self.assertEqual((machine.status, frames(machine)), (("running",), [(1, 12, [9, 4])]))
        run(machine, 10)
        self.assertEqual(machine.status, ("finished", (7,)))
        self.assertEqual(self.answered(code, 0, ()).status, ("thrown", 0, ()))

    def test_an_outer_frame(self):
        code = "(func (result i32) block $b (result i32) try_table (catch $y $b) call 2 end unreachable end i32.const 3 i32.add) (func i32.const 1 call $h drop)"
        machine = self.answered(code, 1, (4,))
        self.assertEqual((machine.status, frames(machine)), (("running",), [(1, 6, [4])]))

    def test_behind_the_end_of_a_try_table(self):
        # The frame waits at the end of the try_table, whose own row is inside of it.
        code = "(func block $b try_table (catch_all $b) i32.const 1 call $h drop end end)"
        machine = self.answered(code, 0, ())
        self.assertEqual((machine.status, frames(machine)), (("running",), [(1, 7, [])]))
        code = "(func block $b block (result i64) try_table (result i64) (catch_all $b) i32.const 1 call $h end end drop end)"
        machine = self.machine(code)
        self.assertEqual(machine.frames[0].place, 5)
        answer_throw(machine, 0, ())
        self.assertEqual((machine.status, frames(machine)), (("running",), [(1, 9, [])]))

    def test_the_row_behind_does_not_count(self):
        code = "(func block $b i32.const 1 call $h try_table (catch_all $b) end drop end)"
        self.assertEqual(self.answered(code, 0, ()).status, ("thrown", 0, ()))

    def test_returning_from_the_last_frame(self):
        machine = self.answered("(func (result i32) try_table (catch $y 0) i32.const 1 call $h drop end i32.const 0)", 1, (4,))
        self.assertEqual((machine.status, machine.frames), (("finished", (4,)), []))

    def test_returning_from_an_inner_frame(self):
        machine = self.answered("(func (result i32) call 2 i32.const 1 i32.add) (func (result i32) try_table (catch $y 0) i32.const 1 call $h drop end i32.const 0)", 1, (4,))
        self.assertEqual((machine.status, frames(machine)), (("running",), [(1, 1, [4])]))

    def test_the_store_stays(self):
        machine = self.machine("(func call 2) (func i32.const 1 call $h drop)")
        before = picture(machine)[3:]
        answer_throw(machine, 0, ())
        self.assertEqual(picture(machine)[3:], before)


if __name__ == "__main__":
    unittest.main()

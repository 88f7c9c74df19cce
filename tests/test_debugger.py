"""Part 7: run, over, out and into with breakpoints, the calls in progress, and their locals."""
import unittest

from engines import ASK, CATCH, FILL, HOST, TRAP, TWO, EngineCase, engine_with, full_engine, wrong
from wasmhost.engine import Engine
from wasmhost.errors import BadValues, NoSuchItem
from wasmhost.modules import Module

# Function 0 calls 1, which calls 2 twice in a loop. Places: 0: call 0, drop 1, end 2.
# 1: const 0, set 1, loop 2, call 3, get 4, const 5, sub 6, tee 7, br_if 8, end 9, get 10, end 11. 2: nop 0, end 1.
NESTED = """(module (func call 1 drop) (func (result i32) (local i32) i32.const 2 local.set 0 loop call 2 local.get 0 i32.const 1 i32.sub local.tee 0 br_if 0 end
local.get 0) (func nop))"""


def begun(func=0, text=NESTED, points=()):
    engine = engine_with(text)
    for point in points:
        engine.break_at(*point)
    engine.call(func, ())
    return engine


def places(engine):
    """The functions and places of the calls, the innermost first."""
    return [(func, place) for func, _, place, _, _ in engine.frames()]


class Example(unittest.TestCase):
    def test_the_example_of_part_7(self):
        add = (("local.get", 0), ("call", 1), ("i32.const", 1), ("i32.add",))
        double = (("local.get", 0), ("i32.const", 2), ("i32.mul",))
        module = Module(signatures=((("i32",), ("i32",)),), functions=((0, (), add), (0, (), double)))
        engine = Engine()
        made = engine.instantiate(module)
        engine.break_at(0, 2)
        engine.call(0, (5,))
        taken = engine.run(100)
        before = engine.frames()
        engine.set_local(0, 0, 7)
        more = [engine.over(100), engine.run(100)]
        self.assertEqual((made, taken, before, more, engine.status()),
                         ((0, None), 6, [(0, 0, 2, (5,), (10,))], [1, 2], ("finished", (11,), 9)))


class Breaks(EngineCase):
    def test_in_order(self):
        engine = full_engine()
        points = [(TWO, 3), (ASK, 6), (TWO, 0), (FILL, 4), (ASK, 0)]
        for point in points + points[:2]:
            self.assertIsNone(engine.break_at(*point))
        self.assertEqual(engine.breaks(), [(ASK, 0), (ASK, 6), (TWO, 0), (TWO, 3), (FILL, 4)])
        self.assertIsNone(engine.clear_break(TWO, 0))
        self.assertEqual(engine.breaks(), [(ASK, 0), (ASK, 6), (TWO, 3), (FILL, 4)])
        engine.breaks().clear()
        self.assertEqual(len(engine.breaks()), 4)

    def test_errors(self):
        engine = full_engine()
        engine.break_at(TWO, 4)
        for method in ("break_at", "clear_break"):
            for func in wrong(8):
                self.fault(engine, NoSuchItem, {"kind": "func", "index": func}, method, func, 0)
                self.fault(engine, NoSuchItem, {"kind": "func", "index": func}, method, func, -1)
            for place in wrong(5):
                self.fault(engine, NoSuchItem, {"kind": "place", "index": place}, method, TWO, place)
            for place in (0, -1, 1):
                self.fault(engine, NoSuchItem, {"kind": "place", "index": place}, method, HOST, place)
        for func, place in ((TWO, 3), (TWO, 0), (ASK, 4)):
            self.fault(engine, NoSuchItem, {"kind": "break", "index": place}, "clear_break", func, place)
        engine.clear_break(TWO, 4)
        self.fault(engine, NoSuchItem, {"kind": "break", "index": 4}, "clear_break", TWO, 4)

    def test_every_place(self):
        engine = full_engine()
        for place in range(engine.signature(CATCH)[2]):
            engine.break_at(CATCH, place)
        self.assertEqual(engine.breaks(), [(CATCH, place) for place in range(11)])


class Run(EngineCase):
    def test_stops(self):
        engine = begun(points=[(1, 4), (2, 1)])
        self.assertEqual([(engine.run(100), places(engine)[0]) for _ in range(4)], [(6, (2, 1)), (1, (1, 4)), (8, (2, 1)), (1, (1, 4))])
        self.assertEqual((engine.run(100), engine.status()), (10, ("finished", (), 26)))

    def test_at_the_place_where_it_begins(self):
        engine = begun(points=[(0, 0)])
        self.assertEqual(engine.run(100), 26)
        engine = begun(points=[(0, 0), (1, 0)])
        self.assertEqual((engine.run(100), engine.run(100)), (1, 25))

    def test_at_a_loop(self):
        engine = begun(points=[(1, 2)])
        self.assertEqual([(engine.run(100), places(engine)) for _ in range(2)], [(3, [(1, 2), (0, 1)]), (9, [(1, 2), (0, 1)])])
        self.assertEqual(engine.run(100), 14)
        engine = begun(text="(module (func loop br 0 end))", points=[(0, 0)])
        self.assertEqual([engine.run(100) for _ in range(3)], [2, 2, 2])
        engine = begun(text="(module (func loop br 0 end))", points=[(0, 0), (0, 1)])
        self.assertEqual([engine.run(100) for _ in range(3)], [1, 1, 1])

    def test_recursion(self):
        engine = begun(text="(module (func call 0))", points=[(0, 0)])
        self.assertEqual([engine.run(100) for _ in range(3)], [1, 1, 1])
        self.assertEqual(len(engine.frames()), 4)

    def test_so_many_steps(self):
        engine = begun(points=[(2, 1)])
        self.assertEqual([engine.run(steps) for steps in (2, 3, 100)], [2, 3, 1])

    def test_no_steps(self):
        for points in ([], [(0, 0)], [(1, 0)]):
            engine = begun(points=points)
            before = engine.save()
            for method in ("run", "over", "out"):
                self.assertEqual(getattr(engine, method)(0), 0)
            self.assertEqual(engine.save(), before)

    def test_an_instruction_that_is_not_finished(self):
        for method in ("run", "over"):
            engine = full_engine()
            engine.break_at(FILL, 3)
            engine.call(FILL, ())
            self.assertEqual([getattr(engine, "run")(100)] + [getattr(engine, method)(100) for _ in range(3)], [3, 1, 1, 1])
            self.assertEqual(places(engine), [(FILL, 3)])
            self.assertEqual((engine.run(100), engine.status()), (2, ("finished", (), 8)))

    def test_not_running(self):
        engine = full_engine()
        engine.call(TWO, ())
        engine.break_at(ASK, 3)
        self.assertEqual(engine.run(100), 6)
        self.assertEqual(engine.status()[0], "asks")
        self.assertEqual([engine.run(5), engine.over(5), engine.out(5), engine.into()], [0] * 4)
        engine.answer((1, 1))
        self.assertEqual(engine.run(1), 1)

    def test_breakpoints_that_are_cleared(self):
        engine = begun(points=[(2, 1)])
        engine.run(100)
        engine.clear_break(2, 1)
        self.assertEqual(engine.run(100), 20)

    def test_breakpoints_change_nothing(self):
        ends = []
        for points in ([], [(func, place) for func, count in ((0, 3), (1, 12), (2, 2)) for place in range(count)]):
            engine = begun(points=points)
            while engine.status()[0] == "running":
                engine.run(2000)
            for point in engine.breaks():
                engine.clear_break(*point)
            ends.append(engine.save())
        self.assertEqual(ends[0], ends[1])


class Over(EngineCase):
    def test_without_calls(self):
        engine = begun(2)
        self.assertEqual([(engine.over(100), places(engine)) for _ in range(2)], [(1, [(2, 1)]), (1, [])])
        self.assertEqual(engine.over(100), 0)

    def test_over_a_call(self):
        engine = begun()
        self.assertEqual((engine.over(100), places(engine)), (24, [(0, 1)]))
        engine = begun(1)
        self.assertEqual([engine.over(100) for _ in range(5)], [1, 1, 1, 3, 1])
        self.assertEqual(places(engine), [(1, 5)])

    def test_out_of_a_call(self):
        engine = begun()
        engine.run(6)
        self.assertEqual((engine.over(100), places(engine)), (1, [(1, 4), (0, 1)]))

    def test_breakpoints_inside_of_the_call(self):
        engine = begun(points=[(2, 0)])
        self.assertEqual((engine.over(100), places(engine)), (5, [(2, 0), (1, 4), (0, 1)]))
        self.assertEqual((engine.over(100), places(engine)), (1, [(2, 1), (1, 4), (0, 1)]))

    def test_a_breakpoint_where_it_begins(self):
        engine = begun(points=[(0, 0)])
        self.assertEqual((engine.over(100), places(engine)), (24, [(0, 1)]))

    def test_so_many_steps(self):
        engine = begun()
        self.assertEqual((engine.over(10), engine.over(3), places(engine)), (10, 1, [(1, 8), (0, 1)]))
        engine = begun()
        self.assertEqual((engine.over(24), places(engine)), (24, [(0, 1)]))
        engine = begun()
        self.assertEqual((engine.over(23), places(engine)), (23, [(1, 11), (0, 1)]))

    def test_a_call_that_asks(self):
        engine = full_engine()
        engine.call(TWO, ())
        self.assertEqual([engine.over(100) for _ in range(3)], [1, 1, 4])
        self.assertEqual((engine.status()[0], places(engine)), ("asks", [(ASK, 3), (TWO, 3)]))
        engine.answer((1, 1))
        self.assertEqual((engine.over(100), places(engine)), (1, [(ASK, 4), (TWO, 3)]))

    def test_a_call_that_traps(self):
        engine = begun(text="(module (func call 1) (func unreachable))")
        self.assertEqual((engine.over(100), engine.status(), places(engine)), (2, ("trapped", "unreachable", 2), [(1, 0), (0, 1)]))


# The exception of function 3 leaves three calls and is caught in function 0, behind whose block the place 6 is.
THROWS = """(module (tag $x) (func block $b try_table (catch $x $b) call 1 end unreachable end nop) (func call 2) (func call 3 nop) (func nop throw $x))"""


class Out(EngineCase):
    def test_out_of_calls(self):
        engine = begun()
        engine.run(6)
        self.assertEqual([(engine.out(100), places(engine)) for _ in range(3)], [(1, [(1, 4), (0, 1)]), (17, [(0, 1)]), (2, [])])
        self.assertEqual(engine.out(100), 0)

    def test_over_inner_calls(self):
        engine = begun()
        engine.run(1)
        self.assertEqual((engine.out(100), places(engine)), (23, [(0, 1)]))

    def test_breakpoints(self):
        engine = begun(points=[(2, 1), (1, 9)])
        engine.run(1)
        self.assertEqual([(engine.out(100), places(engine)[0]) for _ in range(5)], [(5, (2, 1)), (1, (1, 4)), (8, (2, 1)), (1, (1, 4)), (5, (1, 9))])

    def test_so_many_steps(self):
        engine = begun()
        self.assertEqual((engine.out(25), engine.status()[0]), (25, "running"))
        engine = begun()
        self.assertEqual((engine.out(26), engine.status()), (26, ("finished", (), 26)))

    def test_an_exception_that_leaves_several_calls(self):
        for method in ("over", "out"):
            for steps in (5, 6):
                engine = begun(text=THROWS)
                engine.run(steps)
                self.assertEqual(len(engine.frames()), 4)
                taken = getattr(engine, method)(100)
                expected = (1, [(3, 1), (2, 1), (1, 1), (0, 3)]) if (method, steps) == ("over", 5) else (7 - steps, [(0, 6)])
                self.assertEqual((taken, places(engine)), expected)
        engine = begun(text=THROWS)
        engine.run(3)
        self.assertEqual(places(engine), [(1, 0), (0, 3)])
        self.assertEqual((engine.over(100), places(engine)), (4, [(0, 6)]))
        engine = begun(text=THROWS)
        engine.run(4)
        self.assertEqual((engine.out(100), places(engine)), (3, [(0, 6)]))

    def test_an_exception_that_is_not_caught(self):
        for method in ("over", "out"):
            engine = begun(1, text=THROWS)
            self.assertEqual((getattr(engine, method)(100), engine.status()), (4, ("thrown", 0, (), 4)))


class Into(EngineCase):
    def test_at_a_breakpoint(self):
        engine = begun(points=[(0, 0), (1, 0), (1, 1)])
        self.assertEqual([(engine.into(), places(engine)) for _ in range(3)], [(1, [(1, 0), (0, 1)]), (1, [(1, 1), (0, 1)]), (1, [(1, 2), (0, 1)])])

    def test_not_running(self):
        engine = begun(2)
        self.assertEqual([engine.into() for _ in range(3)], [1, 1, 0])


class Frames(EngineCase):
    def test_running(self):
        engine = full_engine()
        self.assertEqual(engine.frames(), [])
        engine.call(TWO, ())
        engine.run(4)
        self.assertEqual(engine.frames(), [(ASK, 0, 1, (9, 0), (9,)), (TWO, 0, 3, (), (7,))])

    def test_asking(self):
        engine = full_engine()
        engine.call(TWO, ())
        engine.run(100)
        expected = [(ASK, 0, 3, (9, 0), ()), (TWO, 0, 3, (), (7,))]
        self.assertEqual(engine.frames(), expected)
        # Behind a trap of the host, the innermost call stands behind the call of the host function.
        engine.answer_trap("unreachable")
        self.assertEqual((engine.frames(), engine.status()), (expected, ("trapped", "unreachable", 6)))

    def test_behind_a_trap(self):
        engine = begun(text="(module (func i64.const 1 call 1 drop) (func (local i32) i32.const 5 i32.const 6 i32.const 0 i32.div_s drop drop))")
        engine.run(100)
        self.assertEqual(engine.frames(), [(1, 0, 3, (0,), (5, 6, 0)), (0, 0, 2, (), (1,))])

    def test_finished_and_thrown(self):
        engine = begun(2)
        engine.run(100)
        self.assertEqual(engine.frames(), [])
        engine = begun(3, text=THROWS)
        engine.run(100)
        self.assertEqual(engine.frames(), [])

    def test_another_instance(self):
        engine = engine_with('(module (func (param i32) unreachable) (export "f" (func 0)))', '(module (import "i0" "f" (func (param i32))) (func i32.const 4 call 0))')
        engine.call(1, ())
        engine.run(100)
        self.assertEqual(engine.frames(), [(0, 0, 0, (4,), ()), (1, 1, 2, (), ())])


class Locals(EngineCase):
    TEXT = "(module (func (param i64 i32) (local i64) local.get 1 call 1 drop) (func (param i32) (result i32) (local i64) unreachable))"

    def engine(self):
        engine = engine_with(self.TEXT)
        engine.call(0, (5, 6))
        engine.run(2)
        return engine

    def test_each_local(self):
        engine = self.engine()
        for frame, local, value in ((0, 0, -2 ** 31), (0, 1, 2 ** 63 - 1), (1, 0, -2 ** 63), (1, 1, 2 ** 31 - 1), (1, 2, 2 ** 31)):
            before = [list(row[3]) for row in engine.frames()]
            others = [(row[:3], row[4]) for row in engine.frames()]
            status = engine.status()
            self.assertIsNone(engine.set_local(frame, local, value))
            before[frame][local] = value
            self.assertEqual([list(row[3]) for row in engine.frames()], before)
            self.assertEqual(([(row[:3], row[4]) for row in engine.frames()], engine.status()), (others, status))

    def test_errors(self):
        engine = self.engine()
        for frame in wrong(2):
            self.fault(engine, NoSuchItem, {"kind": "frame", "index": frame}, "set_local", frame, 9, 2 ** 70)
        for frame, count in ((0, 2), (1, 3)):
            for local in wrong(count):
                self.fault(engine, NoSuchItem, {"kind": "local", "index": local}, "set_local", frame, local, 2 ** 70)
        for frame, local, bits in ((0, 0, 32), (0, 1, 64), (1, 0, 64), (1, 1, 32), (1, 2, 64)):
            for value in (2 ** (bits - 1), -2 ** (bits - 1) - 1):
                self.fault(engine, BadValues, {}, "set_local", frame, local, value)
        self.fault(Engine(), NoSuchItem, {"kind": "frame", "index": 0}, "set_local", 0, 0, 0)

    def test_behind_a_trap(self):
        engine = self.engine()
        engine.run(100)
        self.assertEqual(engine.status()[0], "trapped")
        engine.set_local(0, 0, 77)
        engine.set_local(1, 0, 78)
        self.assertEqual([row[3] for row in engine.frames()], [(77, 0), (78, 6, 0)])

    def test_while_the_machine_asks(self):
        engine = full_engine()
        engine.call(TWO, ())
        engine.run(100)
        engine.set_local(0, 1, -1)
        self.assertEqual(engine.frames()[0], (ASK, 0, 3, (9, -1), ()))

    def test_the_run_uses_it(self):
        engine = full_engine()
        engine.call(TWO, ())
        engine.run(3)
        engine.set_local(0, 0, 1000)
        engine.run(100)
        self.assertEqual(engine.status()[:3], ("asks", 0, (1000, -2)))

    def test_a_host_function_has_none(self):
        engine = full_engine()
        engine.call(HOST, (1, 2))
        self.fault(engine, NoSuchItem, {"kind": "frame", "index": 0}, "set_local", 0, 0, 0)

    def test_of_the_trap_function(self):
        engine = full_engine()
        engine.call(TRAP, (1, 2))
        engine.set_local(0, 1, 9)
        self.assertEqual(engine.frames()[0][3], (1, 9))


if __name__ == "__main__":
    unittest.main()

"""Digests of machines between whose changes other digests were taken (points 1001, 1004, 1007 and 1009).

Each digest is compared with one that is counted anew from all bytes of the save.
"""
import random
import unittest

from engines import BEGIN, CATCH, TRAP, TWO, engine_with, full_engine, states
from random_valid import answer_of, random_store, random_values
from saves import digest_of
from wasmhost.engine import Engine
from wasmhost.errors import HostError
from wasmhost.judge import claims, judge
from wasmhost.modules import Module
from wasmhost.records import audit, read_record
from wasmhost.text.modules import parse

MEMORY = """(module (memory 1 3)
  (func $fill (param i32 i32 i32) local.get 0 local.get 1 local.get 2 memory.fill)
  (func $copy (param i32 i32 i32) local.get 0 local.get 1 local.get 2 memory.copy)
  (func $store (param i32 i64) local.get 0 local.get 1 i64.store)
  (func $grow (param i32) local.get 0 memory.grow drop)
  (func $back (param i32) i32.const 640 local.get 0 i32.store i32.const -1 i32.load drop))"""

FILL, COPY, STORE, GROW, BACK = range(5)

# A function that calls itself, and at the end throws, traps or goes on for ever.
DEEP = """(module (tag $x (param i32)) (tag $y) (global $g (mut i32) (i32.const 0))
  (func $deep (param i32 i32) (result i32) (local i64)
    local.get 0 if
      i64.const 7 local.set 2 local.get 0 i32.const 1 i32.sub local.get 1 call $deep local.get 0 i32.add return
    end
    block block block local.get 1 br_table 0 1 2 end
      i32.const 9 throw $x end
      unreachable end
    loop global.get $g i32.const 1 i32.add global.set $g br 0 end unreachable)
  (func $caught (param i32) (result i32)
    block $b (result i32) try_table (catch $x $b) local.get 0 i32.const 0 call $deep drop end i32.const 1 end i32.const 2 i32.mul))"""

THROW, TRAP_AT_END, FOR_EVER = range(3)


class Case(unittest.TestCase):
    def same(self, engine):
        """The digest is right, also the second time, and that of the same machine in another engine."""
        expected = digest_of(engine)
        self.assertEqual((engine.digest(), engine.digest()), (expected, expected))
        other = Engine()
        other.restore(engine.save())
        self.assertEqual(other.digest(), expected)
        return expected

    def follow(self, engine, steps):
        """Takes single steps, up to so many, with a digest behind each of them. The claim of the run must be the same."""
        data = engine.save()
        digests = [self.same(engine)]
        for _ in range(steps):
            engine.into()
            digests.append(self.same(engine))
        self.assertEqual(claims(data, steps), digests)
        return digests


class Memories(Case):
    def setUp(self):
        self.engine = engine_with(MEMORY)

    def test_bytes_at_the_edges_of_pieces(self):
        self.same(self.engine)
        for at in (0, 1, 62, 63, 64, 65, 127, 128, 4095, 4096, 65535):
            for byte in (5, 200, 0, 7):
                self.engine.write(0, at, [byte])
                self.same(self.engine)

    def test_pieces_of_a_memory(self):
        for at, data in ((60, [1] * 8), (0, []), (64, []), (100, []), (0, [3] * 200), (10, [0] * 190), (63, [0, 0]), (65500, list(range(36))), (65536, [])):
            self.engine.write(0, at, data)
            self.same(self.engine)
        self.engine.write(0, 0, [0] * 300)
        self.engine.write(0, 65500, [0] * 36)
        # Nothing is left of what was there.
        self.assertEqual(self.same(self.engine), self.same(engine_with(MEMORY)))

    def test_fill_and_copy(self):
        for func, arguments in ((FILL, (30, 77, 150)), (COPY, (100, 30, 140)), (COPY, (20, 40, 200)), (FILL, (30, 0, 100)), (FILL, (65400, 255, 136)),
                                (FILL, (0, 0, 500)), (STORE, (60, -1)), (STORE, (61, 258)), (STORE, (60, 0)), (STORE, (65528, 3)), (STORE, (65529, 3))):
            self.engine.call(func, arguments)
            self.follow(self.engine, 14)

    def test_pages(self):
        for pages in (0, 1, 5, 1):
            self.engine.call(GROW, (pages,))
            self.follow(self.engine, 4)
        self.engine.write(0, 70000, [1, 2])
        self.same(self.engine)

    def test_a_block_that_cannot_be_done(self):
        self.engine.make_fast(BACK)
        self.engine.write(0, 640, [1, 2, 0, 4])
        for value in (5, 0, -1):
            self.engine.call(BACK, (value,))
            self.same(self.engine)
            for steps in (2, 1, 1, 50):
                self.engine.run(steps)
                self.same(self.engine)

    def test_memories_of_several_instances(self):
        engine = engine_with(MEMORY, MEMORY, "(module (memory 0))")
        for memory, at in ((0, 3), (1, 3), (1, 200), (0, 3), (1, 3)):
            engine.write(memory, at, [at])
            self.same(engine)
        engine.call(5 + STORE, (3, 0))
        self.follow(engine, 5)


class Items(Case):
    def test_globals(self):
        rows = "".join('(global (mut %s) (%s.const %d))' % (kind, kind, number) for number, kind in enumerate(("i32", "i64") * 70))
        engine = engine_with("(module %s (func loop global.get 130 i32.const 1000 i32.mul global.set 130 br 0 end))" % rows)
        self.same(engine)
        for index in (0, 63, 64, 65, 127, 128, 139):
            for value in (-1, 0, 2 ** 31 - 1, index):
                engine.set_variable(index, value)
                self.same(engine)
        engine.call(0, ())
        self.follow(engine, 12)

    def test_tables(self):
        engine = engine_with("(module (table 200 funcref) (table 0 3 funcref) %s (func) (elem (i32.const 64) func 0))" % ("(table 1 funcref)" * 70))
        self.same(engine)
        for table, at in ((0, 0), (0, 63), (0, 64), (0, 199), (2, 0), (63, 0), (64, 0), (65, 0), (71, 0)):
            for func in (0, None, 0):
                engine.set_table(table, at, func)
                self.same(engine)

    def test_functions_and_tags(self):
        engine = engine_with()
        for number in range(20):
            engine.add_host(("i32",) * (number & 3), ("i64",))
            self.same(engine)
        for _ in range(8):
            engine.instantiate(parse("(module %s %s)" % ("(func)" * 15, "(tag (param i32)) (tag)" * 10)))
            self.same(engine)

    def test_instances(self):
        engine = full_engine()
        self.same(engine)
        for text in ('(module (import "i0" "m" (memory 1)) (import "i0" "t" (table 1 funcref)) (func) (elem (i32.const 0) func 0) (data (i32.const 70) "abc"))',
                     '(module (import "i0" "m" (memory 1)) (data (i32.const 5) "x") (data (i32.const 65536) "y"))', "(module)"):
            engine.instantiate(parse(text))
            self.same(engine)
        with self.assertRaises(HostError):
            engine.instantiate(parse('(module (import "no" "no" (func)))'))
        self.same(engine)

    def test_names_breakpoints_and_fast_functions(self):
        engine = full_engine()
        before = self.same(engine)
        engine.define("a", "b", "func", 0)
        engine.break_at(TWO, 1)
        engine.make_fast(TWO)
        self.assertEqual(self.same(engine), before)


class Calls(Case):
    def test_calls_inside_of_calls(self):
        for end in (THROW, TRAP_AT_END, FOR_EVER):
            engine = engine_with(DEEP)
            engine.call(0, (3, end))
            self.follow(engine, 60)

    def test_the_deepest_calls(self):
        engine = engine_with(DEEP)
        engine.call(0, (70, FOR_EVER))
        for _ in range(12):
            engine.run(60)
            self.same(engine)
        self.assertEqual(engine.status()[:2], ("trapped", "call stack exhausted"))
        engine.call(0, (62, FOR_EVER))
        engine.run(590)
        self.assertEqual(len(engine.frames()), 63)
        self.follow(engine, 8)

    def test_calls_that_return_and_calls_that_are_left(self):
        engine = engine_with(DEEP)
        for depth in (0, 1, 5):
            engine.call(1, (depth,))
            self.follow(engine, 11 * depth + 25)
            self.assertEqual(engine.status()[:2], ("finished", (18,)))
        engine.call(0, (9, FOR_EVER))
        engine.run(95)
        self.same(engine)
        engine.restore(engine.save())
        self.same(engine)

    def test_locals_of_outer_calls(self):
        engine = engine_with(DEEP)
        engine.call(0, (6, FOR_EVER))
        engine.run(65)
        self.assertEqual(len(engine.frames()), 7)
        seen = [self.same(engine)]
        for frame in (3, 0, 6, 5, 1):
            for local, value in ((2, -5), (0, 300)):
                engine.set_local(frame, local, value)
                seen.append(self.same(engine))
                engine.into()
                seen.append(self.same(engine))
        self.assertEqual(len(set(seen)), len(seen))

    def test_a_call_that_went_on_between_two_digests(self):
        # The call of "twice" waits at the first digest, goes on, and waits again at the second one.
        text = """(module (func $inner (param i32) (result i32) local.get 0 i32.const 1 i32.add)
          (func $twice (local i32 i32) i32.const 5 local.tee 0 call $inner local.set 1 i32.const 3 local.get 1 call $inner drop drop))"""
        for first in range(1, 12):
            engine = engine_with(text)
            engine.call(1, ())
            while engine.status()[0] == "running":
                engine.run(first)
                self.same(engine)

    def test_many_locals_and_values(self):
        kinds = "i64 " * 300
        engine = engine_with("(module (func (param i32) (local %s) %s i64.const 5 local.set 64 i64.const -6 local.set 300 local.get 0 if i32.const 0 call 0 end %s))"
                             % (kinds, "i32.const 3 " * 150, "drop " * 150))
        engine.call(0, (1,))
        self.same(engine)
        for steps in (15, 1, 1, 47, 1, 1, 60, 40, 3, 60, 70, 60, 60, 60, 60, 60, 60):
            engine.run(steps)
            self.same(engine)
            if len(engine.frames()) > 0:
                engine.set_local(0, 65, steps)
                engine.set_local(len(engine.frames()) - 1, 128, steps)
                self.same(engine)
        self.assertEqual(engine.status()[:2], ("finished", ()))

    def test_each_status(self):
        for word, engine in states():
            with self.subTest(word):
                self.same(engine)
        engine = full_engine()
        for func in (TWO, TRAP, CATCH, BEGIN):
            engine.call(func, (0,) * len(engine.signature(func)[0]))
            self.follow(engine, 4)
            engine.run(100)
            if engine.status()[0] == "asks":
                engine.answer((1, 2))
                self.same(engine)
                engine.run(100)
            self.same(engine)


class Chosen(Case):
    """Deeds that are chosen by a fixed seed."""

    def deed(self, engine, choices):
        """Does something to the engine."""
        store = engine.machine.store
        pick = choices.randrange
        word = choices.choice(("call", "call", "run", "run", "run", "run", "answer", "answer", "write", "variable", "table", "local", "add", "fast"))
        if word == "call":
            func = pick(len(store.functions))
            engine.call(func, random_values(choices, engine.signature(func)[0]))
        if word == "run":
            choices.choice((engine.run, engine.over, engine.out))(choices.choice((0, 1, 2, 9, 50)))
        if word == "answer" and engine.status()[0] == "asks":
            _, number, values, _ = engine.status()
            action, *rest = answer_of(store, number, values)
            if store.tags and pick(3) == 0:
                action, rest = "throw", (0, random_values(choices, store.tags[0][0]))
            {"values": engine.answer, "throw": engine.answer_throw, "trap": engine.answer_trap}[action](*rest)
        if word == "write":
            engine.write(pick(3), choices.choice((0, 60, 100, 65530)), [choices.choice((0, 0, 9, 200)) for _ in range(choices.choice((1, 6, 70)))])
        if word == "variable":
            engine.set_variable(pick(5), pick(1000) - 500)
        if word == "table":
            engine.set_table(pick(3), pick(4), choices.choice((None, 0)))
        if word == "local":
            engine.set_local(pick(4), pick(3), pick(1000) - 500)
        if word == "add":
            choices.choice((lambda: engine.add_host(("i32",), ()), lambda: engine.instantiate(parse(MEMORY))))()
        if word == "fast":
            engine.make_fast(pick(len(store.functions)))

    def test_chosen_deeds(self):
        kinds = set()
        for seed in range(30):
            choices = random.Random(seed)
            engine = Engine()
            engine.machine.store = random_store(choices)
            engine.record()
            with self.subTest(seed):
                for _ in range(30):
                    try:
                        self.deed(engine, choices)
                    except HostError:
                        pass
                    self.assertEqual(engine.digest(), digest_of(engine))
                end = engine.digest()
                record = engine.stop()
                kinds |= {deed[0] for deed, _ in read_record(record)[1]}
                self.assertIsNone(audit(record))
                other = Engine()
                other.replay(record)
                self.assertEqual((other.digest(), digest_of(other)), (end, end))
                self.follow(other, 8)
        self.assertEqual(kinds, {"host", "instance", "call", "run", "answer", "throw", "trap", "write", "variable", "table", "local"})


class LargeMachine(Case):
    """A save of some hundred thousand bytes, of which a step changes a few numbers only."""

    def setUp(self):
        self.engine = engine_with("(module (memory 1) (func (result i64) (local i64) loop local.get 0 i64.const 1 i64.add local.set 0 br 0 end unreachable))")
        for _ in range(7):
            self.engine.instantiate(Module(memories=((1, None),), memory_segments=((0, ("i32.const", 0), (1,) * 3900),)))
        self.engine.call(0, ())

    def test_claims(self):
        data = self.engine.save()
        self.assertGreater(len(data), 100000)
        found = claims(data, 2000)
        self.assertEqual((len(found), len(set(found))), (2001, 2001))
        self.assertEqual(found[:501], claims(data, 500))
        for steps in (0, 1, 499, 1500):
            self.engine.run(steps)
            at = self.engine.status()[-1]
            self.assertEqual(digest_of(self.engine), found[at])
        self.assertEqual(judge(data, found[0], found[1], found[0]), "first")

    def test_a_record(self):
        self.engine.record()
        digests = []
        for count in range(60):
            self.engine.run(30)
            self.engine.write(count & 7, 64 * count, (0, count))
            digests.append(self.engine.digest())
        self.assertEqual(digests[-1], digest_of(self.engine))
        record = self.engine.stop()
        self.assertEqual([digest for _, digest in read_record(record)[1]][1::2], digests)
        self.assertIsNone(audit(record))


if __name__ == "__main__":
    unittest.main()

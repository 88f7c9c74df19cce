"""Saves that are right (points 901 to 905 and 1001)."""
import unittest

from engines import ASK, FILL, TWO, EngineCase, busy_engine, engine_with, full_engine, states
from saves import DIGEST_MODULUS, digest_of, packed, save_of, tree_of
from wasmhost.engine import Engine
from wasmhost.text.modules import parse


class Numbers(EngineCase):
    def test_an_empty_engine(self):
        self.assertEqual(Engine().save(), [87, 65, 83, 1, 0, 0, 0, 0, 0, 0, 0, 1, 0, 0, 0, 0, 0, 139, 36, 28, 24])

    def test_everything_written_out(self):
        engine = engine_with(hosts=((("i64",), ("i32", "i64")),))
        made = engine.instantiate(parse("""(module (import "h" "0" (func (param i64) (result i32 i64))) (table 2 9 funcref) (memory 1) (tag (param i32))
            (global (mut i64) (i64.const -300)) (global i32 (i32.const 64)) (func (param i32) (result i32) (local i64) i32.const 5 i64.const -1 call 0 drop drop)
            (elem (i32.const 1) func 0) (data (i32.const 200) "a\\00b"))"""))
        self.assertEqual(made, (0, None))
        engine.define("A", "", "memory", 0)
        engine.break_at(1, 3)
        engine.break_at(1, 0)
        engine.make_fast(1)
        engine.call(1, (-2,))
        engine.run(100)
        file = [0, 97, 115, 109, 1, 0, 0, 0, 1, 16, 3, 96, 1, 126, 2, 127, 126, 96, 1, 127, 0, 96, 1, 127, 1, 127, 2, 7, 1, 1, 104, 1, 48, 0, 0, 3, 2, 1, 2,
                4, 5, 1, 112, 1, 2, 9, 5, 3, 1, 0, 1, 13, 3, 1, 0, 1, 6, 13, 2, 126, 1, 66, 212, 125, 11, 127, 0, 65, 192, 0, 11, 9, 7, 1, 0, 65, 1, 11, 1, 0,
                10, 14, 1, 12, 1, 1, 126, 65, 5, 66, 127, 16, 0, 26, 26, 11, 11, 10, 1, 0, 65, 200, 1, 11, 3, 97, 0, 98]
        numbers = [1, len(file)] + file + [2, 0, 1, 1, 0, 1, 0, 2, 0, 1, 1, 0]  # The instance and its items.
        numbers += [2, 1, 1, 1, 2, 0, 1, 0, 0, 0]  # A host function and a function of the instance.
        numbers += [1, 9, 2, 0, 1]  # A table with the entries None and function 0.
        numbers += [1, 1, 16, 2, 200, 97, 202, 98]  # A memory.
        numbers += [2, 1, 1, 599, 0, 0, 128]  # The globals.
        numbers += [1, 1, 0, 0]  # The tag.
        numbers += [1, 1, 3, 2, 3, 0, 1, 10]  # A call at the place 3 with the locals -2 and 0 and with 5 on its stack.
        numbers += [4, 0, 1, 1]  # It asks the host function 0 with -1.
        numbers += [3]
        numbers += [2, 1, 72, 1, 16, 0, 0, 1, 33, 0, 2, 0]  # The names of the host function and the memory.
        numbers += [2, 1, 0, 1, 3, 1, 1]  # Breakpoints, and a fast function.
        self.assertEqual(engine.status(), ("asks", 0, (-1,), 3))
        self.assertEqual(engine.save(), packed(numbers))

    def test_all_states(self):
        for name, engine in states():
            with self.subTest(name):
                self.assertEqual(engine.save(), save_of(tree_of(engine)))

    def test_values_of_any_size(self):
        engine = engine_with("(module (func (param i64) unreachable))")
        for number, written in ((0, 0), (1, 2), (-1, 1), (63, 126), (-64, 127), (2 ** 63 - 1, 2 ** 64 - 2), (-2 ** 63, 2 ** 64 - 1)):
            engine = engine_with("(module (func (param i64) unreachable))")
            engine.call(0, (number,))
            tree = tree_of(engine)
            self.assertEqual(tree["calls"], [[0, 0, [number], []]])
            file = tree["instances"][0][0]
            self.assertEqual(engine.save(), packed([1, len(file)] + file + [1, 0, 0, 0, 0, 0] + [1, 0, 0, 0] + [0, 0, 0, 0] + [1, 0, 0, 1, written, 0] + [0, 0, 0, 0, 0]))

    def test_reasons(self):
        for number, reason in enumerate(("unreachable", "integer divide by zero", "integer overflow", "out of bounds memory access", "undefined element",
                                         "uninitialized element", "indirect call mismatch", "call stack exhausted")):
            engine = Engine()
            engine.add_host((), ())
            engine.call(0, ())
            engine.answer_trap(reason)
            self.assertEqual(engine.save(), packed([0, 1, 1, 0, 0] + [0] * 4 + [0, 2, number, 0, 0, 0, 0]))

    def test_strings(self):
        engine = Engine()
        engine.add_host((), ())
        letters = [chr(code) for code in range(32, 127) if code != 37]
        engine.define("".join(letters[:60]), "".join(letters[60:]), "func", 0)
        self.assertEqual(engine.save(), packed([0, 1, 1, 0, 0] + [0] * 5 + [1, 0, 0] + [1, 60] + [ord(letter) - 32 for letter in letters[:60]] + [34]
                                               + [ord(letter) - 32 for letter in letters[60:]] + [0, 0, 0, 0]))

    def test_a_record_is_not_saved(self):
        engine = full_engine()
        before = engine.save()
        engine.record()
        self.assertEqual(engine.save(), before)

    def test_the_list_is_new(self):
        engine = full_engine()
        engine.save().clear()
        self.assertGreater(len(engine.save()), 100)


class Restoring(EngineCase):
    def test_all_states(self):
        for name, engine in states():
            with self.subTest(name):
                data = engine.save()
                before = list(data)
                other = full_engine()
                other.break_at(TWO, 1)
                self.assertIsNone(other.restore(data))
                self.assertEqual((other.save(), data), (before, before))
                for method in ("status", "names", "breaks", "frames", "fast_functions", "digest"):
                    self.assertEqual(getattr(other, method)(), getattr(engine, method)(), method)
                self.assertEqual([other.signature(func) for func in range(9)], [engine.signature(func) for func in range(9)])

    def test_it_goes_on_alike(self):
        for name, engine in states():
            with self.subTest(name):
                other = Engine()
                other.restore(engine.save())
                twins = [Engine(), other]
                twins[0].restore(other.save())
                for each in twins:
                    for _ in range(3):
                        if each.status()[0] == "asks":
                            number = each.status()[1]
                            each.answer((3, 4) if number == 0 else ())
                        each.run(20)
                    each.make_plain(ASK)
                    if each.status()[0] not in ("running", "asks"):
                        each.add_host((), ())
                        each.instantiate(parse('(module (import "i0" "two" (func (result i32))) (import "d" "~ !" (func (param i32) (result i32))) (memory 1))'))
                        each.call(8, (1,))
                        each.run(3)
                self.assertEqual(twins[0].save(), twins[1].save())

    def test_breakpoints_and_fast_functions_work(self):
        engine = busy_engine()
        other = Engine()
        other.restore(engine.save())
        other.call(TWO, ())
        self.assertEqual(other.run(100), 6)
        other.answer((1, 2))
        self.assertEqual((other.run(100), other.frames()[0][:3]), (5, (TWO, 0, 4)))
        self.assertEqual(other.block_at(ASK, 0), engine.block_at(ASK, 0))
        self.assertIs(other.make_fast(ASK), False)

    def test_everything_is_replaced(self):
        engine = busy_engine()
        engine.call(TWO, ())
        empty = Engine()
        engine.restore(empty.save())
        self.assertEqual(engine.save(), empty.save())
        self.assertEqual((engine.names(), engine.breaks(), engine.frames(), engine.fast_functions()), ([], [], [], []))

    def test_the_engines_are_apart(self):
        engine = busy_engine()
        data = engine.save()
        other = Engine()
        other.restore(data)
        other.write(0, 0, [5])
        other.set_table(0, 0, None)
        other.set_variable(0, 1)
        other.define("z", "z", "func", 0)
        other.break_at(FILL, 0)
        self.assertEqual(engine.save(), data)

    def test_memories_grow_up_to_the_same_size(self):
        engine = engine_with("(module (memory 1 3) (func (param i32) (result i32) local.get 0 memory.grow))")
        for count, former, pages in ((1, 1, 2), (2, -1, 2), (1, 2, 3), (1, -1, 3)):
            other = Engine()
            other.restore(engine.save())
            engine = other
            engine.call(0, (count,))
            engine.run(10)
            self.assertEqual((engine.status()[1], engine.pages(0)), ((former,), pages))


class Digests(EngineCase):
    def test_all_states(self):
        for name, engine in states():
            with self.subTest(name):
                self.assertEqual(engine.digest(), digest_of(engine))

    def test_names_breakpoints_and_fast_functions_do_not_count(self):
        engine = full_engine()
        before = engine.digest()
        engine.define("z", "z", "func", 0)
        engine.break_at(FILL, 0)
        engine.make_fast(FILL)
        engine.record()
        self.assertEqual(engine.digest(), before)
        self.assertLess(before, DIGEST_MODULUS)

    def test_each_part_counts(self):
        engine = full_engine()
        seen = [engine.digest()]
        for action in (lambda: engine.write(0, 0, [1]), lambda: engine.set_variable(0, 9), lambda: engine.set_table(0, 0, 0), lambda: engine.add_host((), ()),
                       lambda: engine.instantiate(parse("(module)")), lambda: engine.call(TWO, ()), lambda: engine.run(1), lambda: engine.run(3),
                       lambda: engine.set_local(0, 0, 8), lambda: engine.run(100), lambda: engine.answer((1, 2)), lambda: engine.run(100)):
            action()
            self.assertNotIn(engine.digest(), seen)
            seen.append(engine.digest())


if __name__ == "__main__":
    unittest.main()

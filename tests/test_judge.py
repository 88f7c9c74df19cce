"""Claims, narrowing, and the judge (points 1001, 1009 and 1010)."""
import random
import unittest

from engines import TRAP, TWO, engine_with, full_engine
from wasmhost.engine import Engine
from wasmhost.errors import BadClaim, DamagedSave, OutOfRange
from wasmhost.judge import claims, judge, narrow

LOOP = "(module (func (param i32) loop local.get 0 i32.const 1 i32.sub local.set 0 br 0 end))"


def looping():
    engine = engine_with(LOOP)
    engine.call(0, (5,))
    return engine


def digests(engine, steps):
    """The digests of a copy of an engine behind 0, 1 and more steps."""
    other = Engine()
    other.restore(engine.save())
    found = [other.digest()]
    for _ in range(steps):
        other.into()
        found.append(other.digest())
    return found


class Claims(unittest.TestCase):
    def test_no_steps(self):
        for engine in (Engine(), looping(), full_engine()):
            data = engine.save()
            self.assertEqual(claims(data, 0), [engine.digest()])
            self.assertEqual(engine.save(), data)

    def test_some_steps(self):
        engine = looping()
        for steps in (1, 2, 30):
            self.assertEqual(claims(engine.save(), steps), digests(engine, steps))
        self.assertEqual(len(set(claims(engine.save(), 30))), 31)

    def test_a_machine_that_stops(self):
        engine = full_engine()
        engine.call(TWO, ())
        found = claims(engine.save(), 20)
        self.assertEqual(found, digests(engine, 20))
        self.assertEqual((len(found), len(set(found)), set(found[6:])), (21, 7, {found[6]}))
        engine.run(2)
        engine.run(100)
        engine.answer_trap("unreachable")
        self.assertEqual(claims(engine.save(), 3), [engine.digest()] * 4)
        engine.call(TRAP, (1, 2))
        found = claims(engine.save(), 5)
        self.assertEqual((len(set(found)), found), (3, digests(engine, 5)))

    def test_names_and_breakpoints_do_not_count(self):
        engine, other = looping(), looping()
        other.define("x", "y", "func", 0)
        other.break_at(0, 2)
        other.make_fast(0)
        self.assertNotEqual(engine.save(), other.save())
        self.assertEqual(claims(engine.save(), 20), claims(other.save(), 20))

    def test_two_thousand_steps(self):
        found = claims(looping().save(), 2000)
        self.assertEqual(len(found), 2001)
        engine = looping()
        self.assertEqual(engine.run(2000), 2000)
        self.assertEqual(found[-1], engine.digest())

    def test_errors(self):
        good = looping().save()
        for steps in (-1, 2001, 10 ** 30):
            with self.assertRaises(OutOfRange) as caught:
                claims(good, steps)
            self.assertEqual(caught.exception.what, "steps")
            for data, place in (([], "head"), (good[:-1], "check"), (good[:-1] + [good[-1] ^ 1], "check")):
                with self.assertRaises(DamagedSave) as caught:
                    claims(data, steps)
                self.assertEqual(caught.exception.place, place)


class Narrow(unittest.TestCase):
    def test_the_example(self):
        self.assertEqual(narrow([1, 2, 3, 4, 5], [1, 2, 3, 0, 0]), (2, [2, 3]))

    def test_short_ones(self):
        self.assertEqual(narrow([1, 2], [1, 3]), (0, []))
        self.assertEqual(narrow([1, 2, 3], [1, 2, 4]), (1, [1]))
        self.assertEqual(narrow([1, 2, 3], [1, 5, 4]), (0, [1]))
        self.assertEqual(narrow([1, 2, 3, 4], [1, 0, 3, 0]), (0, [1]))
        self.assertEqual(narrow([1, 2, 3, 4], [1, 2, 0, 0]), (1, [1, 2]))

    def test_two_thousand_and_one(self):
        for last in (0, 1, 998, 999, 1000, 1001, 1998, 1999):
            second = list(range(last + 1)) + [-1] * (2000 - last)
            low, asked = narrow(list(range(2001)), second)
            self.assertEqual((low, asked[0]), (last, 1000))
            self.assertLessEqual(len(asked), 11)
        self.assertEqual(narrow(list(range(2001)), list(range(2000)) + [7])[1], [1000, 1500, 1750, 1875, 1937, 1968, 1984, 1992, 1996, 1998, 1999])

    def test_claims_that_agree_again(self):
        choices = random.Random(9)
        for _ in range(200):
            count = choices.randint(2, 40)
            first = [choices.randint(0, 1) for _ in range(count)]
            second = [first[0]] + [choices.randint(0, 1) for _ in range(count - 2)] + [1 - first[-1]]
            low, asked = narrow(first, second)
            self.assertEqual((first[low], first[low + 1] == second[low + 1]), (second[low], False))
            self.assertEqual(len(asked), len(set(asked)))

    def test_errors(self):
        for first, second in (([1, 2], [1, 3, 4]), ([], []), ([1], [1]), ([1], [2]), (list(range(2002)), list(range(2001)) + [0]), ([1, 2], [2, 3]), ([1, 2], [1, 2]),
                              ([1, 2, 3], [1, 5, 3]), ([1, 2, 3], [0, 2, 3]), ([1, 2], [])):
            before = (list(first), list(second))
            with self.assertRaises(BadClaim):
                narrow(first, second)
            with self.assertRaises(BadClaim):
                narrow(second, first)
            self.assertEqual((first, second), before)

    def test_the_arguments_stay(self):
        first, second = [1, 2, 3], [1, 5, 4]
        narrow(first, second)[1].append(7)
        self.assertEqual((first, second, narrow(first, second)), ([1, 2, 3], [1, 5, 4], (0, [1])))


class Judge(unittest.TestCase):
    def engines(self):
        """Engines that run, that have finished, that ask, and that trap with the next step."""
        running, asking, trapping = looping(), full_engine(), full_engine()
        running.run(7)
        asking.call(TWO, ())
        asking.run(100)
        trapping.call(TRAP, (1, 2))
        trapping.run(1)
        return running, Engine(), asking, trapping

    def test_each_answer(self):
        for engine in self.engines():
            data = engine.save()
            before, after = claims(data, 1)
            for first, second, answer in ((after, after + 1, "first"), (after + 1, after, "second"), (after, after, "both"), (after + 1, after + 1, "neither"),
                                          (after - 1, after + 1, "neither"), (0, after, "second")):
                self.assertEqual(judge(data, before, first, second), answer)
            self.assertEqual(engine.save(), data)

    def test_none_or_one_step(self):
        running, finished, asking, trapping = self.engines()
        for engine, steps in ((running, 1), (finished, 0), (asking, 0), (trapping, 1)):
            before, after = claims(engine.save(), 1)
            self.assertEqual(before != after, steps == 1)
            self.assertEqual(judge(engine.save(), before, before, -1), "neither" if steps else "first")

    def test_errors(self):
        data = looping().save()
        before, after = claims(data, 1)
        for wrong in (before + 1, after, 0, before + 2305843009213693951):
            with self.assertRaises(BadClaim):
                judge(data, wrong, after, 0)
        for bad, place in (([], "head"), (data[:-1], "check")):
            for digest in (before, 0):
                with self.assertRaises(DamagedSave) as caught:
                    judge(bad, digest, after, 0)
                self.assertEqual(caught.exception.place, place)

    def test_a_dispute(self):
        # One side leaves out the change of a local at a step.
        honest = claims(looping().save(), 60)
        liar = looping()
        liar.run(29)
        liar.set_local(0, 0, 77)
        false = honest[:29] + claims(liar.save(), 31)
        low, asked = narrow(honest, false)
        self.assertEqual((low, asked), (28, [30, 15, 22, 26, 28, 29]))
        shown = looping()
        shown.run(low)
        self.assertEqual(judge(shown.save(), honest[low], honest[low + 1], false[low + 1]), "first")
        self.assertEqual(judge(shown.save(), honest[low], false[low + 1], honest[low + 1]), "second")


if __name__ == "__main__":
    unittest.main()

"""Fast and plain runs, and saves, over modules that are chosen by a fixed seed."""
import random
import unittest

from machines import picture, twin
from random_valid import answer_of, random_store, random_values
from wasmhost.check.code import stacks
from wasmhost.engine import Engine
from wasmhost.fast.lower import blocks
from wasmhost.fast.passes import improve
from wasmhost.fast.run import do_block, fast_entry, heights_of, run_fast
from wasmhost.flat import flatten
from wasmhost.machine.outside import at_place
from wasmhost.machine.step import run, step

MOST = 300


def own_functions(store):
    """A dict from the functions of instances to their modules and indexes there."""
    found = {}
    for func, row in enumerate(store.functions):
        if row[0] == "code":
            module = store.instances[row[1]].module
            found[func] = (module, len([each for each in module.imports if each[2] == "func"]) + row[2])
    return found


def engine_of(seed):
    """An engine with the store of a seed, and a run that has begun."""
    choices = random.Random(seed)
    engine = Engine()
    engine.machine.store = random_store(choices)
    func = choices.randrange(len(engine.machine.store.functions))
    engine.call(func, random_values(choices, engine.signature(func)[0]))
    return engine, choices


def give_answer(engine):
    _, number, values, _ = engine.status()
    word, *rest = answer_of(engine.machine.store, number, values)
    {"values": engine.answer, "throw": engine.answer_throw, "trap": engine.answer_trap}[word](*rest)


class Shapes(unittest.TestCase):
    """What holds for the blocks of every function."""

    def test_blocks(self):
        for seed in range(80):
            for module, index in own_functions(random_store(random.Random(seed))).values():
                seen, rows, heights = stacks(module, index), flatten(module, index), heights_of(module, index)
                self.assertEqual(heights, tuple(len(kinds) for kinds, _ in seen))
                found = blocks(module, index)
                places = [block[0] for block in found]
                self.assertEqual(places, sorted(set(places)))
                self.assertEqual(places[0], 0)
                for place, height, cost, lines, ending in found:
                    self.assertFalse(seen[place][1])
                    self.assertEqual(height, heights[place])
                    self.assertEqual(cost, len(lines) + (ending[0] != "leave"))
                    after = place + len(lines) + 1
                    if after < len(rows) and not seen[after][1]:
                        self.assertIn(after, places)
                    if ending[0] == "leave":
                        self.assertEqual(ending[1], place + len(lines))
                    ways = ()
                    if ending[0] in ("go", "if"):
                        ways = (ending[1],) if ending[0] == "go" else (ending[2][0], ending[3][0])
                    if ending[0] == "switch":
                        ways = [way[0] for way in ending[2]]
                    for way in ways:
                        self.assertIn(way, places)


class Fast(unittest.TestCase):
    def go(self, start, fast, size, stops=()):
        """The save at the end of a run in slices, with these functions fast, and the number of pauses at breakpoints."""
        engine = Engine()
        engine.machine = twin(start)
        engine.fast = dict(fast)
        engine.points = sorted(stops)
        pauses = 0
        while engine.status()[-1] < MOST and engine.status()[0] in ("running", "asks"):
            if engine.status()[0] == "asks":
                give_answer(engine)
            else:
                left = min(size, MOST - engine.status()[-1])
                taken = engine.run(left)
                self.assertLessEqual(taken, left)
                pauses += taken < left
        engine.fast, engine.points = {}, []
        return engine.save(), pauses

    def starts(self, seeds):
        """The seed, the machine in front of its first step, and all functions as fast ones."""
        for seed in seeds:
            engine, _ = engine_of(seed)
            yield seed, engine.machine, {func: fast_entry(*where) for func, where in own_functions(engine.machine.store).items()}

    def test_runs_of_all_lengths(self):
        for seed, start, fast in self.starts(range(250)):
            expected, _ = self.go(start, {}, 10 ** 3)
            some = {func: fast[func] for func in list(fast)[::2]}
            for size in (10 ** 3, 1, 2, 3, 7, 20, 50):
                self.assertEqual(self.go(start, fast, size)[0], expected, (seed, size))
            self.assertEqual(self.go(start, some, 10 ** 3)[0], expected, seed)

    def test_with_breakpoints(self):
        pauses = 0
        for seed, start, fast in self.starts(range(100)):
            places = random.Random(seed)
            expected, _ = self.go(start, {}, 10 ** 3)
            points = []
            for func in fast:
                count = len(fast[func][1])
                points += [(func, place) for place in set(places.choices(range(count), k=3))]
            for size in (10 ** 3, 40):
                found, count = self.go(start, fast, size, points)
                self.assertEqual(found, expected, (seed, size))
                pauses += count
        self.assertGreater(pauses, 100)

    def test_breakpoints_stop_fast_and_plain_runs_alike(self):
        for seed in range(120):
            places = random.Random(seed)
            engines = [engine_of(seed)[0] for _ in range(2)]
            functions = own_functions(engines[0].machine.store)
            points = []
            for _ in range(4):
                func = places.choice(list(functions))
                points.append((func, places.randrange(engines[0].signature(func)[2])))
            for engine in engines:
                for point in points:
                    engine.break_at(*point)
            for func in functions:
                engines[1].make_fast(func)
            for _ in range(40):
                if engines[0].status()[0] == "asks":
                    for engine in engines:
                        give_answer(engine)
                size = places.randint(1, 40)
                self.assertEqual(engines[0].run(size), engines[1].run(size), seed)
                self.assertEqual(picture(engines[0].machine), picture(engines[1].machine), seed)

    def test_each_block_as_so_many_steps(self):
        done, failed = 0, 0
        for seed in range(120):
            engine, _ = engine_of(seed)
            entries = {func: (blocks(*where), fast_entry(*where)) for func, where in own_functions(engine.machine.store).items()}
            for _ in range(150):
                if engine.status()[0] == "asks":
                    give_answer(engine)
                if engine.status()[0] != "running":
                    break
                func, place = at_place(engine.machine)
                plain = [block for block in entries[func][0] if block[0] == place]
                improved, heights = entries[func][1]
                for block in plain + ([improved[place]] if plain else []):
                    first, second = twin(engine.machine), twin(engine.machine)
                    run(second, block[2])
                    if do_block(first, block, heights):
                        self.assertEqual(picture(first), picture(second), (seed, block))
                        done += 1
                    else:
                        self.assertEqual(picture(first), picture(engine.machine))
                        self.assertEqual(second.status[0], "trapped")
                        failed += 1
                step(engine.machine)
        self.assertGreater(done, 1000)
        self.assertGreater(failed, 20)

    def test_improved_blocks(self):
        shorter = 0
        for seed in range(60):
            for module, index in own_functions(random_store(random.Random(seed))).values():
                own = module.functions[index - len([row for row in module.imports if row[2] == "func"])]
                slots = len(module.signatures[own[0]][0]) + len(own[1])
                improved, heights = fast_entry(module, index)
                self.assertEqual(heights, heights_of(module, index))
                found = blocks(module, index)
                self.assertEqual(list(improved), [block[0] for block in found])
                for block in found:
                    better = improve(block, heights, slots)
                    self.assertEqual(improved[block[0]], better)
                    self.assertEqual(better[:3], block[:3])
                    shorter += len(block[3]) - len(better[3])
        self.assertGreater(shorter, 100)

    def test_run_fast_without_fast_functions(self):
        for seed in range(30):
            first, second = (engine_of(seed)[0].machine for _ in range(2))
            self.assertEqual(run_fast(first, 100, {}, []), run(second, 100))
            self.assertEqual(picture(first), picture(second))


class Saves(unittest.TestCase):
    def test_a_restored_engine_goes_on_alike(self):
        for seed in range(100):
            engine, choices = engine_of(seed)
            for _ in range(6):
                other = Engine()
                data = engine.save()
                other.restore(data)
                self.assertEqual(other.save(), data)
                self.assertEqual(picture(other.machine), picture(engine.machine))
                size = choices.randint(1, 30)
                for each in (engine, other):
                    if each.status()[0] == "asks":
                        give_answer(each)
                    each.run(size)
                self.assertEqual(other.save(), engine.save())
                self.assertEqual(other.digest(), engine.digest())
                engine = other


if __name__ == "__main__":
    unittest.main()

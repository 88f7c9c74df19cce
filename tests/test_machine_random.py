"""Machines over modules that are chosen by a fixed seed."""
import collections
import random
import unittest

from machines import picture
from oracle import Oracle
from random_valid import SIGNATURES, answer_of, random_store, random_values
from wasmhost.check.code import stack_at
from wasmhost.flat import flatten
from wasmhost.machine.outside import answer, answer_throw, answer_trap, begin
from wasmhost.machine.state import Machine
from wasmhost.machine.step import run, step
from wasmhost.store import value_fits, values_fit

MOST = 400


def give_answer(machine):
    word, *rest = answer_of(machine.store, machine.status[1], machine.status[2])
    {"values": answer, "throw": answer_throw, "trap": answer_trap}[word](machine, *rest)


def kinds_of(machine, frame):
    """The kinds of point 409 at the place of a frame."""
    _, instance, number, _ = machine.store.functions[frame.func]
    module = machine.store.instances[instance].module
    imported = len([row for row in module.imports if row[2] == "func"])
    return module, imported + number


class Cases(unittest.TestCase):
    SEEDS = range(300)

    def cases(self):
        for seed in self.SEEDS:
            choices = random.Random(seed)
            store = random_store(choices)
            functions = [func for func, row in enumerate(store.functions)]
            func = choices.choice(functions)
            yield seed, store, func, random_values(choices, store.functions[func][-1][0])


class AgainstAnotherInterpreter(Cases):
    def test_the_ends_agree(self):
        ends = collections.Counter()
        names = collections.Counter()
        for seed, store, func, values in self.cases():
            oracle = Oracle(store, MOST)
            machine = Machine(store)
            begin(machine, func, values)
            while machine.spent < MOST and machine.status[0] in ("running", "asks"):
                if machine.status[0] == "asks":
                    give_answer(machine)
                else:
                    place = machine.frames[-1].func, machine.frames[-1].place
                    _, instance, number, _ = store.functions[place[0]]
                    names[store.instances[instance].codes[number][place[1]][0][0]] += 1
                    step(machine)
            expected = oracle.run(func, values)
            status = machine.status if machine.status[0] not in ("running", "asks") else None
            with self.subTest(seed):
                self.assertEqual((status, machine.spent), (expected, oracle.spent))
                self.assertEqual([memory.read(0, memory.size()) for memory in store.memories], [list(data) for data in oracle.memories])
                self.assertEqual([row.value for row in store.variables], oracle.variables)
            ends[status and status[:2] if status and status[0] == "trapped" else status and status[0]] += 1
        # The modules are such that much of what can happen does happen.
        self.assertGreater(min(ends[word] for word in ("finished", "thrown", None)), 5, ends)
        self.assertGreater(len(names), 100, names)


class NeverWrong(Cases):
    """Point 618."""

    def check_frame(self, machine, frame, waits):
        module, func = kinds_of(machine, frame)
        kinds, dead = stack_at(module, func, frame.place)
        self.assertFalse(dead)
        if waits:
            instruction = flatten(module, func)[frame.place - 1][0]
            self.assertIn(instruction[0], ("call", "call_indirect"))
            instance = machine.store.instances[frame.instance]
            signature = (machine.store.functions[instance.functions[instruction[1]]][-1] if instruction[0] == "call"
                         else module.signatures[instruction[1]])
            kinds = kinds[:len(kinds) - len(signature[1])]
        self.assertTrue(values_fit(tuple(kinds), tuple(frame.stack)), (kinds, frame.stack))
        index, own, _ = module.functions[machine.store.functions[frame.func][2]]
        self.assertTrue(values_fit(SIGNATURES[index][0] + own, tuple(frame.slots)))

    def check_values(self, machine, func):
        store = machine.store
        word, *rest = machine.status
        if word == "finished":
            self.assertTrue(values_fit(store.functions[func][-1][1], rest[0]))
        if word == "thrown":
            self.assertTrue(values_fit(store.tags[rest[0]][0], rest[1]))
        if word == "asks":
            signature = next(row[2] for row in store.functions if row[:2] == ("host", rest[0]))
            self.assertTrue(values_fit(signature[0], rest[1]))
        for row in store.variables:
            self.assertTrue(value_fits(row.kind, row.value))

    def test_kinds_in_front_of_each_step(self):
        for seed, store, func, values in self.cases():
            machine = Machine(store)
            begin(machine, func, values)
            with self.subTest(seed):
                for _ in range(MOST):
                    word = machine.status[0]
                    self.check_values(machine, func)
                    if word not in ("running", "asks"):
                        break
                    for frame in machine.frames[-3:]:
                        self.check_frame(machine, frame, word == "asks" or frame is not machine.frames[-1])
                    if word == "asks":
                        give_answer(machine)
                    else:
                        step(machine)


class Slices(Cases):
    def go(self, store, func, values, size):
        machine = Machine(store)
        begin(machine, func, values)
        left = MOST
        while left > 0 and machine.status[0] in ("running", "asks"):
            if machine.status[0] == "asks":
                give_answer(machine)
            else:
                left -= run(machine, min(size, left))
        return picture(machine)

    def test_slices_add_up(self):
        for seed in range(60):
            results = []
            for size in (1000, 1, 7):
                choices = random.Random(seed)
                store = random_store(choices)
                func = choices.randrange(len(store.functions))
                results.append(self.go(store, func, random_values(choices, store.functions[func][-1][0]), size))
            self.assertEqual(results[0], results[1])
            self.assertEqual(results[0], results[2])


if __name__ == "__main__":
    unittest.main()

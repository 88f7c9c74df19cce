"""Saves that are damaged (points 906 to 908)."""
import unittest

from engines import A, ASK, B, CATCH, FILL, HOST, TRAP, TWO, EngineCase, busy_engine, engine_with, full_engine, padded, states
from saves import numbers_of, packed, save_of, tree_of, unpacked, with_check
from wasmhost.binary.modules import encode
from wasmhost.engine import Engine
from wasmhost.errors import DamagedSave, HostError
from wasmhost.modules import Module

ORDER = ("head", "check", "numbers", "form", "modules", "functions", "instances", "items", "status", "calls", "names", "points")


class Case(EngineCase):
    # The number of the last call, the store's functions and so on are those of busy_engine.

    def setUp(self):
        self.engine = full_engine()
        self.engine.call(TWO, ())
        self.engine.run(2)
        self.engine.record()

    def damaged(self, place, data):
        self.fault(self.engine, DamagedSave, {"place": place}, "restore", data)

    def tree(self, name="running"):
        return tree_of(next(engine for word, engine in states() if word == name))

    def breaks(self, place, change, name="running"):
        """Changes a tree by a function; the save is damaged at this place."""
        tree = self.tree(name)
        change(tree)
        self.damaged(place, save_of(tree))

    def fine(self, change, name="running"):
        """Changes a tree by a function; the save can be restored, and is the same then."""
        tree = self.tree(name)
        change(tree)
        engine = Engine()
        data = save_of(tree)
        engine.restore(data)
        self.assertEqual(engine.save(), data)
        return engine

    def sets(self, place, *path, name="running"):
        """Sets an item of the tree by its path, the last of which is the new value."""
        *keys, last, new = path

        def change(tree):
            where = tree
            for key in keys:
                where = where[key]
            where[last] = new

        if place is None:
            self.fine(change, name)
        else:
            self.breaks(place, change, name)


class Bytes(Case):
    def test_the_tree_is_right(self):
        for name, engine in states():
            self.fine(lambda tree: None, name)

    def test_head(self):
        good = save_of(self.tree())
        for data in ([], good[:7], [87, 65, 83, 1, 0, 0, 0], [0] * 20, packed([0] * 13, (87, 65, 82, 1)), packed([0] * 13, (87, 65, 83, 2)), good[1:]):
            self.damaged("head", data)
        for place in range(4):
            self.damaged("head", good[:place] + [good[place] ^ 1] + good[place + 1:])

    def test_check(self):
        good = save_of(self.tree())
        for data in (good[:-1], good + [0], good[:-1] + [good[-1] ^ 1], good[:-4] + [0] + good[-4:], good[:4] + [good[4] ^ 1] + good[5:], [87, 65, 83, 1, 0, 0, 0, 0]):
            self.damaged("check", data)

    def test_numbers(self):
        for groups in ([128, 0], [129, 0], [0, 128], [0] * 12 + [128, 0], [255]):
            self.damaged("numbers", with_check([87, 65, 83, 1] + groups))
        good = save_of(self.tree())
        self.damaged("numbers", with_check(good[:4] + [good[4] + 128, 0] + good[5:-4]))
        self.damaged("numbers", with_check(good[:-4] + [128]))

    def test_the_argument_stays(self):
        for data in (save_of(self.tree())[:-1] + [0], packed([0] * 12)):
            before = list(data)
            with self.assertRaises(DamagedSave):
                self.engine.restore(data)
            self.assertEqual(data, before)


class Form(Case):
    def test_missing_and_left_over(self):
        numbers = numbers_of(self.tree())
        for count in range(len(numbers)):
            self.damaged("form", packed(numbers[:count]))
        for more in ([0], [1], [0, 0], numbers):
            self.damaged("form", packed(numbers + more))
        self.damaged("form", packed([]))
        self.damaged("form", packed([0] * 11))
        self.damaged("status", packed([0] * 12))
        self.damaged("form", packed([0] * 7 + [1] + [0] * 6))

    def test_huge_lengths(self):
        for length in (100, 2 ** 31, 2 ** 64, 10 ** 40):
            self.damaged("form", packed([length] + [0] * 13))
            self.damaged("form", packed([0, 0, 1, 5, length, 0, 0, 0, 0]))

    def test_numbers_that_stand_for_something(self):
        for number in (2, 3, 7, 10 ** 30):
            self.breaks("form", lambda tree: tree["globals"][0].__setitem__(0, number))
            self.breaks("form", lambda tree: tree["globals"][0].__setitem__(1, number))
            self.breaks("form", lambda tree: tree["tags"].__setitem__(0, [[number], []]))
            self.breaks("form", lambda tree: tree["functions"].__setitem__(0, ["host", [[A, number], [B, A]]]))
            self.breaks("form", lambda tree: tree["functions"].__setitem__(0, [number, 0, 0]))
        for number in (5, 6, 10 ** 30):
            self.sets("form", "names", 0, 2, number)
            self.sets("form", "status", [number])
        for number in (8, 9, 10 ** 30):
            self.sets("form", "status", 1, number, name="trapped")
        for number in (95, 96, 128, 10 ** 30, 5):
            self.sets("form", "names", 0, 0, [number])
            self.sets("form", "names", 3, 1, ["a", number, "b"])
        for number in (256, 1000, 10 ** 30):
            self.sets("form", "instances", 0, 0, 9, number)

    def test_last_good_values(self):
        self.sets(None, "names", 0, 0, [94, 0, 4, 6])
        self.sets(None, "names", 0, 1, "a" * 200)
        self.sets(None, "spent", 10 ** 50)
        for number in range(8):
            self.sets(None, "status", 1, number, name="trapped")


class Modules(Case):
    def alone(self, file, place, more=()):
        """A save with one instance of a file, with these lists."""
        tree = tree_of(Engine())
        tree["instances"] = [[list(file)] + [list(row) for row in more] + [[]] * (5 - len(more))]
        if place is None:
            engine = Engine()
            engine.restore(save_of(tree))
            self.assertEqual(engine.save(), save_of(tree))
        else:
            self.damaged(place, save_of(tree))

    def test_files(self):
        empty = encode(Module())
        self.alone(empty, None)
        for file in ([], empty[:-1], empty + [0], empty + [1, 1, 0], empty + [0, 1, 0], [0] * 8, empty + [1, 129, 0, 0], empty + [3, 1, 0]):
            self.alone(file, "modules")

    def test_other_forms_of_a_file(self):
        module = Module(signatures=(((), ()),))
        file = encode(module)
        self.assertEqual(file[8:], [1, 4, 1, 96, 0, 0])
        self.alone(file, None)
        self.alone(file[:8] + [1, 5, 129, 0, 96, 0, 0], "modules")
        self.alone(file[:8] + [0, 1, 0] + file[8:], "modules")

    def test_files_that_are_too_long(self):
        tree = tree_of(Engine())
        tree["instances"] = [[encode(padded(4000)), [], [], [0], [], []]]
        tree["memories"] = [[1, 16, []]]
        engine = Engine()
        engine.restore(save_of(tree))
        self.assertEqual(engine.save(), save_of(tree))
        tree["instances"][0][0].append(0)
        self.damaged("modules", save_of(tree))

    def test_modules_that_are_not_valid(self):
        for module in (Module(exports=(("a", "func", 0),)), Module(signatures=(((), (A,)),), functions=((0, (), ()),)), Module(functions=((0, (), ()),)),
                       Module(start=0), Module(memories=((1, None), (1, None)))):
            self.alone(encode(module), "modules")

    def test_modules_that_are_too_large(self):
        for module in (Module(tables=((257, None),)), Module(memories=((17, None),)), Module(signatures=(((A,) * 17, ()),)), Module(signatures=(((), (A,) * 17),))):
            self.alone(encode(module), "modules")
        for module in (Module(signatures=(((A,) * 16, (A,) * 16),)),):
            self.alone(encode(module), None)

    def test_nine_instances(self):
        for count in (8, 9):
            tree = tree_of(Engine())
            tree["instances"] = [[encode(Module()), [], [], [], [], []]] * count
            if count == 8:
                Engine().restore(save_of(tree))
            else:
                self.damaged("modules", save_of(tree))
                tree["functions"] = [["code", 20, 0]]
                self.damaged("modules", save_of(tree))


class Functions(Case):
    def test_functions_of_instances(self):
        for path in ((1, 2), (1, 5), (1, 10 ** 30), (2, 6), (2, 10 ** 30)):
            # The functions of the store from 2 on are those of the instances, 7 of the first and 1 of the second one.
            self.sets("functions", "functions", 2, *path)
        self.sets("functions", "functions", 8, 2, 1)
        self.sets("functions", "functions", 8, 1, 2)

    def test_host_functions(self):
        for signature in ([[A] * 17, []], [[], [B] * 17]):
            self.sets("functions", "functions", 0, ["host", signature])
            self.breaks("functions", lambda tree: tree["functions"].append(["host", signature]))
        self.fine(lambda tree: tree["functions"].append(["host", [[A] * 16, [B] * 16]]))
        self.fine(lambda tree: tree["functions"].extend([["host", [[], []]]] * 18))
        self.breaks("functions", lambda tree: tree["functions"].extend([["host", [[], []]]] * 19))


class Instances(Case):
    def test_lengths(self):
        for instance in (0, 1):
            for part in range(1, 6):
                self.breaks("instances", lambda tree: tree["instances"][instance][part].append(0))
                self.breaks("instances", lambda tree: tree["instances"][instance][part].pop())
                self.breaks("instances", lambda tree: tree["instances"][instance].__setitem__(part, []))

    def test_numbers_that_name_nothing(self):
        tree = self.tree()
        for part, key in enumerate(("functions", "tables", "memories", "globals", "tags"), 1):
            for number in (len(tree[key]), len(tree[key]) + 1, 10 ** 30):
                for at in range(len(tree["instances"][0][part])):
                    self.sets("instances", "instances", 0, part, at, number)

    def test_functions_that_do_not_fit(self):
        # The import 0 of the first module is the host function 0, and only a function of its signature fits.
        for func in range(1, 9):
            self.sets("instances", "instances", 0, 1, 0, func)
        self.breaks("instances", lambda tree: tree["functions"][0].__setitem__(1, [[A, B], [B, B]]))

    def test_a_host_function_of_the_same_signature_fits(self):
        def change(tree):
            tree["functions"].append(["host", [[A, B], [B, A]]])
            tree["instances"][0][1][0] = 9
        self.fine(change)

    def test_own_functions(self):
        def swap(tree):
            # Both have the signature () -> ().
            numbers = tree["instances"][0][1]
            numbers[6], numbers[7] = numbers[7], numbers[6]

        def swap_all(tree):
            swap(tree)
            rows = tree["functions"]
            rows[6], rows[7] = rows[7], rows[6]

        self.breaks("instances", swap)
        self.fine(swap_all)
        self.breaks("instances", lambda tree: tree["functions"].append(["code", 0, 5]))
        self.breaks("instances", lambda tree: tree["functions"].append(["code", 1, 0]))
        self.sets("instances", "instances", 0, 1, 7, 6)
        self.breaks("instances", lambda tree: tree["functions"].__setitem__(7, ["code", 0, 4]))

    def test_own_functions_that_are_missing(self):
        self.breaks("instances", lambda tree: tree["functions"].__setitem__(7, ["host", [[], []]]))

    def test_tables(self):
        # The first module defines a table with at least 3 entries and no greatest size; the second one imports at least 1.
        self.breaks("instances", lambda tree: tree["tables"][0].__setitem__(1, [None, None]))
        self.fine(lambda tree: tree["tables"][0].__setitem__(1, [None] * 4))
        self.fine(lambda tree: tree["tables"].__setitem__(0, [3, [None] * 3]))
        self.breaks("items", lambda tree: tree["tables"].__setitem__(0, [2, [None] * 3]))

    def test_memories(self):
        # It defines a memory with 1 to 3 pages.
        self.sets("instances", "memories", 0, 0, 0)
        self.sets("instances", "memories", 0, 1, 4)
        self.sets("instances", "memories", 0, 1, 16)
        self.sets(None, "memories", 0, 1, 2)
        self.sets(None, "memories", 0, 0, 3)
        self.sets("items", "memories", 0, 0, 4)

    def test_memories_without_a_greatest_size(self):
        engine = engine_with("(module (memory 1))")
        for pages, most, place in ((1, 16, None), (1, 1, None), (16, 16, None), (0, 16, "instances"), (1, 17, "items"), (2, 1, "items")):
            tree = tree_of(engine)
            tree["memories"] = [[pages, most, []]]
            if place is None:
                Engine().restore(save_of(tree))
            else:
                self.damaged(place, save_of(tree))

    def test_globals(self):
        self.sets("instances", "globals", 0, 0, A)
        self.sets("instances", "globals", 0, 1, False)
        self.sets("instances", "globals", 1, 0, B)
        self.sets("instances", "globals", 1, 1, True)
        self.sets("instances", "instances", 0, 4, 0, 1)
        self.sets("instances", "instances", 1, 4, 0, 1)

    def test_items_of_other_instances(self):
        # An own item may be any item that fits.
        def change(tree):
            tree["memories"].append([2, 3, []])
            tree["globals"].append([B, True, 5])
            tree["instances"][1][3] = [1]
            tree["instances"][0][4][0] = 2
        self.fine(change)

    def test_tags(self):
        self.sets("instances", "tags", 0, [[], []])
        self.sets("instances", "tags", 0, [[B], []])
        self.sets("instances", "tags", 1, [[A], []])
        self.sets("instances", "tags", 1, [[], [A]])
        self.sets("instances", "instances", 0, 5, 1, 0)
        self.breaks("items", lambda tree: tree["tags"].append([[], [A]]))
        self.fine(lambda tree: tree["tags"].append([[A] * 40, []]))


class Items(Case):
    def test_tables(self):
        for most in (256, 3, 4):
            self.sets(None, "tables", 0, 0, most)
        for most in (257, 2, 0, 10 ** 30):
            self.sets("items", "tables", 0, 0, most)
        for func in (9, 10, 10 ** 30):
            self.sets("items", "tables", 0, 1, 2, func)
        for func in (None, 0, 8):
            self.sets(None, "tables", 0, 1, 2, func)
        self.breaks("items", lambda tree: tree["tables"].append([257, []]))
        self.fine(lambda tree: tree["tables"].append([0, []]))
        self.fine(lambda tree: tree["tables"].append([256, [1] * 256]))
        self.breaks("items", lambda tree: tree["tables"].append([257, [1] * 257]))

    def test_memories(self):
        for cells in ([], [[0, 1]], [[65535, 255]], [[0, 255], [1, 1], [65535, 7]]):
            self.sets(None, "memories", 0, 2, cells)
        for cells in ([[65536, 1]], [[10 ** 30, 1]], [[0, 0]], [[0, 256]], [[0, 10 ** 30]], [[1, 1], [1, 1]], [[1, 1], [0, 1]], [[0, 1], [5, 1], [4, 1]], [[0, 1], [65536, 1]]):
            self.sets("items", "memories", 0, 2, cells)
        self.breaks("items", lambda tree: tree["memories"].append([0, 17, []]))
        self.breaks("items", lambda tree: tree["memories"].append([17, 17, []]))
        self.breaks("items", lambda tree: tree["memories"].append([1, 0, []]))
        self.breaks("items", lambda tree: tree["memories"].append([0, 0, [[0, 1]]]))
        self.fine(lambda tree: tree["memories"].append([16, 16, [[16 * 65536 - 1, 1]]]))

    def test_globals(self):
        for value in (2 ** 63 - 1, -2 ** 63):
            self.sets(None, "globals", 0, 2, value)
        for value in (2 ** 63, -2 ** 63 - 1, 10 ** 30):
            self.sets("items", "globals", 0, 2, value)
        for value in (2 ** 31 - 1, -2 ** 31):
            self.sets(None, "globals", 1, 2, value)
        for value in (2 ** 31, -2 ** 31 - 1):
            self.sets("items", "globals", 1, 2, value)


class Status(Case):
    def test_running_needs_a_call(self):
        self.sets("status", "calls", [])
        self.sets("status", "status", ["running"], name="finished")

    def test_finished_and_thrown_need_none(self):
        for status in (["finished", []], ["finished", [1]], ["thrown", 1, []], ["thrown", 0, [5]]):
            self.sets("status", "status", status)
            self.sets(None, "status", status, name="finished")
            self.sets("status", "status", status, name="asks")

    def test_finished_values(self):
        for values in ([0] * 16, [2 ** 63 - 1, -2 ** 63] * 8):
            self.sets(None, "status", ["finished", values], name="finished")
        for values in ([0] * 17, [2 ** 63], [0, -2 ** 63 - 1], [0] * 15 + [10 ** 30]):
            self.sets("status", "status", ["finished", values], name="finished")

    def test_thrown_values(self):
        for tag, values in ((0, [2 ** 31 - 1]), (0, [-2 ** 31]), (1, [])):
            self.sets(None, "status", ["thrown", tag, values], name="finished")
        for tag, values in ((2, []), (10 ** 30, []), (0, []), (0, [1, 2]), (0, [2 ** 31]), (1, [0])):
            self.sets("status", "status", ["thrown", tag, values], name="finished")

    def test_asked_values(self):
        for number, values in ((0, [2 ** 31 - 1, 2 ** 63 - 1]), (1, [])):
            self.sets(None, "status", ["asks", number, values], name="finished")
        for number, values in ((2, []), (10 ** 30, []), (0, []), (0, [1]), (0, [1, 2, 3]), (0, [2 ** 31, 0]), (0, [0, 2 ** 63]), (1, [0])):
            self.sets("status", "status", ["asks", number, values], name="finished")
        self.sets("status", "status", ["asks", 0, [1, 2 ** 63]], name="asks")
        self.sets(None, "status", ["asks", 0, [1, 2]], name="asks")

    def test_trapped_needs_nothing(self):
        for reason in range(8):
            self.sets(None, "status", ["trapped", reason], name="finished")
            self.sets(None, "status", ["trapped", reason], name="running")
            self.sets(None, "status", ["trapped", reason], name="asks")


class Calls(Case):
    """In "running", function 8 at the place 2 waits for ASK at the place 1, whose stack is [2147483647]."""

    def test_the_tree(self):
        self.assertEqual(self.tree()["calls"], [[ASK, 1, [2 ** 31 - 1, -3], [2 ** 31 - 1]], [8, 2, [2 ** 31 - 1], []]])
        self.assertEqual(self.tree("asks")["calls"], [[ASK, 3, [2 ** 31 - 1, -3], []], [8, 2, [2 ** 31 - 1], []]])

    def test_functions(self):
        for func in (0, 1, 9, 10, 10 ** 30):
            for at in (0, 1):
                self.sets("calls", "calls", at, 0, func)

    def test_places(self):
        for place in (0, 2, 3, 5, 7, 8, 10 ** 30):
            self.sets("calls", "calls", 0, 1, place)
        for place in (0, 1, 3, 10 ** 30):
            self.sets("calls", "calls", 1, 1, place)

    def test_dead_places(self):
        # TRAP is dead behind its place 1.
        call = [TRAP, 1, [1, 2], [3]]
        self.sets(None, "calls", [call])
        self.sets("calls", "calls", [[TRAP, 2, [1, 2], [3]]])
        self.sets("calls", "calls", [[TRAP, 2, [1, 2], []]])
        self.sets("calls", "calls", [[TRAP, 2, [1, 2], [3, 4]]])

    def test_locals(self):
        for slots in ([], [1], [1, 2, 3], [2 ** 31, 0], [0, 2 ** 63], [-2 ** 31 - 1, 0]):
            self.sets("calls", "calls", 0, 2, slots)
        for slots in ([0, 0], [-2 ** 31, 2 ** 63 - 1]):
            self.sets(None, "calls", 0, 2, slots)
        for slots in ([], [1, 2], [2 ** 31]):
            self.sets("calls", "calls", 1, 2, slots)

    def test_stacks(self):
        for stack in ([], [1, 2], [2 ** 31], [-2 ** 31 - 1]):
            self.sets("calls", "calls", 0, 3, stack)
        for stack in ([0], [-2 ** 31]):
            self.sets(None, "calls", 0, 3, stack)
        for stack in ([1], [1, 2]):
            self.sets("calls", "calls", 1, 3, stack)

    def test_running_does_not_wait(self):
        self.sets("calls", "calls", 0, [ASK, 3, [1, 2], []])
        self.sets(None, "calls", 0, [ASK, 3, [1, 2], [3, 4]])
        self.sets("calls", "calls", 0, [ASK, 3, [1, 2], [3]])

    def test_outer_calls_wait_for_the_next_inner_one(self):
        # FILL is another function than function 8 calls, and TWO calls ASK, too.
        self.sets("calls", "calls", 0, [FILL, 0, [], []])
        self.sets("calls", "calls", 1, [FILL, 3, [], [0, 5, 200]])
        self.sets(None, "calls", 1, [TWO, 3, [], [7]])
        self.sets("calls", "calls", 1, [TWO, 3, [], [7, 7]])
        self.sets("calls", "calls", 1, [TWO, 2, [], [7, 9]])
        self.sets(None, "calls", [[TWO, 0, [], []]])
        self.sets("calls", "calls", [[TWO, 0, [], []], [TWO, 0, [], []]])
        self.breaks("calls", lambda tree: tree["calls"].reverse())
        self.breaks("calls", lambda tree: tree["calls"].insert(1, tree["calls"][1]))

    def test_sixty_four_calls(self):
        engine = engine_with("(module (func (param i32) local.get 0 call 0))")
        engine.call(0, (1,))
        engine.run(200)
        self.assertEqual(engine.status()[:2], ("trapped", "call stack exhausted"))
        tree = tree_of(engine)
        self.assertEqual(len(tree["calls"]), 64)
        for more, place in ((0, None), (1, "calls")):
            for status in (["trapped", 7], ["running"]):
                tree["status"] = status
                tree["calls"] += [[0, 2, [1], []]] * more
                if place is None:
                    Engine().restore(save_of(tree))
                else:
                    self.damaged(place, save_of(tree))

    def test_asks(self):
        for call in ([ASK, 3, [1, 2], [3, 4]], [ASK, 3, [1, 2], [3]], [ASK, 2, [1, 2], [1, 2]], [ASK, 4, [1, 2], [3]], [TWO, 3, [], [7]]):
            self.sets("calls", "calls", 0, call, name="asks")
        self.sets(None, "calls", 0, [ASK, 3, [1, 2], []], name="asks")
        self.sets("calls", "status", ["asks", 1, []], name="asks")

    def test_asks_another_host_function_of_the_same_signature(self):
        def change(tree):
            tree["functions"].append(["host", [[A, B], [B, A]]])
            tree["status"] = ["asks", 2, [1, 2]]
        self.breaks("calls", change, "asks")

    def test_trapped(self):
        # It may wait for a host function, or not wait.
        self.sets(None, "status", ["trapped", 0], name="asks")
        self.sets(None, "calls", 0, [ASK, 3, [1, 2], [3, 4]], name="trapped behind a call")
        self.sets("calls", "calls", 0, [ASK, 3, [1, 2], [3]], name="trapped behind a call")
        self.sets("calls", "calls", 0, [ASK, 4, [1, 2], []], name="trapped behind a call")
        # It may not wait for a function of an instance.
        self.breaks("calls", lambda tree: tree["calls"].pop(0), name="trapped behind a call")
        self.sets(None, "calls", [[8, 2, [1], [5]]], name="trapped behind a call")


class IndirectCalls(Case):
    TEXT = """(module (type $a (func (param i32) (result i32))) (type $b (func (param i64) (result i64))) (table 4 funcref)
    (func $in (type $a) local.get 0) (func $other (type $a) local.get 0) (func $third (type $b) local.get 0)
    (func (param i32) (result i32) i64.const 9 i32.const 5 local.get 0 call_indirect (type $a) i32.const 1 i32.add br 0) (elem (i32.const 0) func $in $other))"""

    def tree_at(self, index, steps=4):
        engine = engine_with(self.TEXT)
        engine.add_host((A,), (A,))
        engine.add_host((B,), (B,))
        engine.add_host((A,), (A,))
        engine.set_table(0, 2, 4)
        engine.set_table(0, 3, 6)
        engine.call(3, (index,))
        engine.run(steps)
        return tree_of(engine)

    def restored(self, tree, place):
        if place is None:
            Engine().restore(save_of(tree))
        else:
            self.damaged(place, save_of(tree))

    def test_functions_with_the_signature(self):
        tree = self.tree_at(0)
        self.assertEqual(tree["calls"], [[0, 0, [5], []], [3, 4, [0], [9]]])
        for call, place in (([0, 0, [5], []], None), ([1, 0, [5], []], None), ([1, 1, [5], [6]], None), ([2, 0, [5], []], "calls"), ([3, 0, [5], []], None)):
            tree["calls"][0] = call
            self.restored(tree, place)

    def test_host_functions_with_the_signature(self):
        tree = self.tree_at(2)
        self.assertEqual((tree["status"], tree["calls"]), (["asks", 0, (5,)], [[3, 4, [2], [9]]]))
        for number, place in ((0, None), (2, None), (1, "calls")):
            tree["status"] = ["asks", number, [5]]
            self.restored(tree, place)
        tree["status"] = ["trapped", 3]
        self.restored(tree, None)
        # Without a host function of this signature it cannot wait.
        for row in (4, 6):
            tree["functions"][row] = ["host", [[A], [B]]]
        self.restored(tree, "calls")
        tree["calls"][0][3] = [9, 1]
        self.restored(tree, None)


class Names(Case):
    def test_sixty(self):
        def grow(count):
            def change(tree):
                tree["names"] += [["m", str(at), "func", 0] for at in range(count - len(tree["names"]))]
            return change
        self.fine(grow(60))
        self.breaks("names", grow(61))

    def test_pairs(self):
        self.breaks("names", lambda tree: tree["names"].append(tree["names"][0]))
        self.breaks("names", lambda tree: tree["names"].append(tree["names"][0][:2] + ["tag", 0]))
        self.fine(lambda tree: tree["names"].append([tree["names"][0][0], tree["names"][0][1] + "x", "tag", 0]))

    def test_indexes(self):
        for kind, count in (("func", 9), ("table", 1), ("memory", 1), ("global", 2), ("tag", 2)):
            self.sets(None, "names", 3, 2, kind) if count > 1 else None
            for index in (count, count + 1, 10 ** 30):
                self.breaks("names", lambda tree: tree["names"].append(["z", "z", kind, index]))
            self.fine(lambda tree: tree["names"].append(["z", "z", kind, count - 1]))


class Points(Case):
    def test_breakpoints(self):
        self.assertEqual(self.tree()["points"], [[TWO, 0], [TWO, 4], [CATCH, 7], [8, 1]])
        for points in ([], [[TWO, 0]], [[ASK, 0], [ASK, 6], [TWO, 0]]):
            self.sets(None, "points", points)
        for points in ([[TWO, 0], [TWO, 0]], [[TWO, 1], [TWO, 0]], [[CATCH, 0], [TWO, 4]], [[TWO, 5]], [[TWO, 10 ** 30]], [[HOST, 0]], [[9, 0]], [[10 ** 30, 0]],
                       [[TWO, 0], [CATCH, 11]]):
            self.sets("points", "points", points)

    def test_fast_functions(self):
        self.assertEqual(self.tree()["fast"], [ASK, FILL, 8])
        for fast in ([], [2], [2, 3, 4, 5, 6, 7, 8]):
            self.sets(None, "fast", fast)
        for fast in ([2, 2], [3, 2], [2, 4, 3], [0], [1, 2], [9], [2, 10 ** 30]):
            self.sets("points", "fast", fast)


class Order(Case):
    """Two conditions that are not met: the first one counts."""

    CHANGES = (
        ("form", lambda tree: tree["globals"][0].__setitem__(1, 2)),
        ("modules", lambda tree: tree["instances"][1][0].append(0)),
        ("functions", lambda tree: tree["functions"].append(["host", [[A] * 17, []]])),
        ("instances", lambda tree: tree["instances"][1][5].append(0)),
        ("items", lambda tree: tree["tags"].append([[], [A]])),
        ("status", lambda tree: tree.__setitem__("status", ["finished", []])),
        ("calls", lambda tree: tree["calls"][1].__setitem__(1, 10 ** 9)),
        ("names", lambda tree: tree["names"].append(["z", "z", "table", 5])),
        ("points", lambda tree: tree["fast"].append(0)),
    )

    def test_each_two(self):
        for at, (place, change) in enumerate(self.CHANGES):
            self.breaks(place, change)
            for _, other in self.CHANGES[at + 1:]:
                def both(tree):
                    other(tree)
                    change(tree)
                self.breaks(place, both)

    def test_the_first_three(self):
        good = save_of(self.tree())
        self.damaged("head", [1] + with_check(good[:-4] + [128])[1:])
        self.damaged("check", with_check(good[:-4] + [128])[:-1] + [0])
        self.damaged("numbers", with_check([87, 65, 83, 1, 255]))
        numbers = numbers_of(self.tree())
        self.damaged("numbers", with_check(packed(numbers[:5])[:-4] + [128, 0]))

    def test_all_at_once(self):
        tree = self.tree()
        for at in range(len(self.CHANGES) - 1, -1, -1):
            self.CHANGES[at][1](tree)
            self.damaged(self.CHANGES[at][0], save_of(tree))
        self.assertEqual([place for place, _ in self.CHANGES], list(ORDER[3:]))


class EachByte(unittest.TestCase):
    """Each byte of a save changed, with right check bytes."""

    def use(self, engine):
        """Does much with an engine. Only errors of the interface may be raised."""
        for _ in range(4):
            try:
                engine.run(30)
                word, *rest = engine.status()
                if word == "asks":
                    func = next(func for func in range(100) if engine.signature(func)[2] == 0 and engine.machine.store.functions[func][1] == rest[0])
                    engine.answer((1,) * len(engine.signature(func)[1]))
                elif word != "running":
                    engine.call(TWO, ())
                engine.frames()
                engine.set_local(0, 0, 1)
            except HostError:
                pass
        engine.digest()

    def check(self, engine, bytes_of):
        data = engine.save()
        good = 0
        for place in range(4, len(data) - 4):
            for byte in bytes_of(data[place]):
                if byte == data[place]:
                    continue
                changed = with_check(data[:place] + [byte] + data[place + 1:-4])
                other = Engine()
                try:
                    other.restore(changed)
                except DamagedSave as fault:
                    self.assertIn(fault.place, ORDER)
                    self.assertEqual(other.save(), Engine().save())
                    continue
                self.assertEqual(other.save(), changed)
                self.use(other)
                good += 1
        self.assertGreater(good, 5)

    def test_some_states(self):
        for name, engine in states():
            if name in ("running", "asks", "trapped behind a call", "filling", "thrown"):
                self.check(engine, lambda byte: (byte ^ 1, byte + 1 & 255) if name == "running" else (byte ^ 1,))

    def test_all_bytes_of_a_small_save(self):
        engine = engine_with('(module (memory 1) (func (param i32) (result i32) local.get 0 if nop end i32.const 5 call 0) (table 1 funcref) (export "f" (func 0)))')
        engine.call(0, (1,))
        engine.run(9)
        self.check(engine, lambda byte: range(256))

    def test_numbers_changed(self):
        engine = busy_engine()
        engine.call(TWO, ())
        engine.run(4)
        numbers = unpacked(engine.save())
        self.assertEqual(packed(numbers), engine.save())
        for at in range(len(numbers)):
            for number in (0, numbers[at] + 1, numbers[at] + 2, 300, 2 ** 32, 2 ** 70):
                other = Engine()
                changed = packed(numbers[:at] + [number] + numbers[at + 1:])
                try:
                    other.restore(changed)
                except DamagedSave:
                    continue
                self.assertEqual(other.save(), changed)
                self.use(other)


if __name__ == "__main__":
    unittest.main()

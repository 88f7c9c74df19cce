import random
import unittest

from wasmhost.modules import Module
from wasmhost.store import Global, Instance, Memory, Store, Table, value_fits, values_fit

PAGE = 65536


class Attributes(unittest.TestCase):
    def test_table(self):
        for size in (0, 1, 256):
            table = Table(size, 256)
            self.assertEqual(vars(table), {"entries": [None] * size, "most": 256})
            self.assertIs(type(table.entries), list)

    def test_tables_do_not_share_entries(self):
        first, second = Table(2, 3), Table(2, 3)
        first.entries[0] = 5
        self.assertEqual(second.entries, [None, None])

    def test_memory(self):
        memory = Memory(2, 16)
        self.assertEqual((memory.pages, memory.most, memory.cells), (2, 16, {}))

    def test_global(self):
        variable = Global("i64", True, -7)
        self.assertEqual(vars(variable), {"kind": "i64", "mutable": True, "value": -7})
        self.assertEqual(vars(Global("i32", False, 0)), {"kind": "i32", "mutable": False, "value": 0})

    def test_instance(self):
        module = Module()
        instance = Instance(module, (1, 2), (3,), (4,), (5, 6), (7,), ((),))
        self.assertIs(instance.module, module)
        self.assertEqual((instance.functions, instance.tables, instance.memories, instance.variables, instance.tags,
                          instance.codes), ((1, 2), (3,), (4,), (5, 6), (7,), ((),)))

    def test_store(self):
        names = ("functions", "tables", "memories", "variables", "tags", "instances")
        store = Store()
        for name in names:
            self.assertEqual(getattr(store, name), [])
            getattr(store, name).append(1)
        self.assertEqual([getattr(Store(), name) for name in names], [[]] * 6)


class Memories(unittest.TestCase):
    def test_sizes(self):
        for pages in (0, 1, 2, 16):
            self.assertEqual(Memory(pages, 16).size(), pages * PAGE)

    def test_the_size_follows_the_pages(self):
        memory = Memory(1, 3)
        memory.pages = 3
        self.assertEqual(memory.size(), 3 * PAGE)

    def test_bytes_that_were_never_written(self):
        memory = Memory(1, 1)
        self.assertEqual(memory.read(0, 5), [0] * 5)
        self.assertEqual(memory.read(PAGE - 3, 3), [0] * 3)
        self.assertEqual(memory.read(0, PAGE), [0] * PAGE)
        self.assertEqual(memory.cells, {})

    def test_writes(self):
        memory = Memory(1, 1)
        memory.write(10, [1, 0, 255])
        self.assertEqual(memory.read(9, 5), [0, 1, 0, 255, 0])
        self.assertEqual(memory.cells, {10: 1, 12: 255})
        memory.write(11, [7, 8])
        self.assertEqual(memory.read(9, 5), [0, 1, 7, 8, 0])
        self.assertEqual(memory.cells, {10: 1, 11: 7, 12: 8})

    def test_writes_of_zero(self):
        memory = Memory(1, 1)
        memory.write(3, [0, 0])
        self.assertEqual(memory.cells, {})
        memory.write(3, [4, 5, 6])
        memory.write(3, [0, 5])
        self.assertEqual(memory.cells, {4: 5, 5: 6})
        memory.write(0, [0] * 20)
        self.assertEqual(memory.cells, {})
        self.assertEqual(memory.read(0, 20), [0] * 20)

    def test_nothing(self):
        for pages in (0, 1, 16):
            memory = Memory(pages, 16)
            memory.write(0, [])
            memory.write(pages * PAGE, [])
            self.assertEqual((memory.read(0, 0), memory.read(pages * PAGE, 0), memory.cells), ([], [], {}))

    def test_first_and_last_byte(self):
        for pages in (1, 16):
            memory = Memory(pages, 16)
            last = pages * PAGE - 1
            memory.write(0, [1])
            memory.write(last, [2])
            self.assertEqual((memory.read(0, 2), memory.read(last - 1, 2), memory.read(last, 1)), ([1, 0], [0, 2], [2]))
            self.assertEqual(memory.cells, {0: 1, last: 2})

    def test_lists_are_new(self):
        memory = Memory(1, 1)
        data = [1, 2, 0, 3]
        memory.write(0, data)
        self.assertEqual(data, [1, 2, 0, 3])
        data[0] = 9
        found = memory.read(0, 4)
        found[1] = 9
        self.assertEqual(memory.read(0, 4), [1, 2, 0, 3])

    def test_two_memories(self):
        first, second = Memory(1, 1), Memory(1, 1)
        first.write(0, [1])
        second.write(1, [2])
        self.assertEqual((first.read(0, 2), second.read(0, 2)), ([1, 0], [0, 2]))

    def test_nothing_is_returned(self):
        self.assertIsNone(Memory(1, 1).write(0, [1]))

    def test_against_a_plain_list(self):
        choices = random.Random(3)
        memory, plain = Memory(1, 1), [0] * 100
        for _ in range(500):
            at = choices.randint(0, 100)
            data = [choices.choice((0, 0, 1, 255)) for _ in range(choices.randint(0, 100 - at))]
            memory.write(at, data)
            plain[at:at + len(data)] = data
            self.assertEqual(memory.read(0, 100), plain)
            self.assertEqual(memory.cells, {place: byte for place, byte in enumerate(plain) if byte != 0})


class Values(unittest.TestCase):
    RANGES = (("i32", -2147483648, 2147483647), ("i64", -9223372036854775808, 9223372036854775807))

    def test_both_ends(self):
        for kind, low, high in self.RANGES:
            for value in (low, low + 1, -1, 0, 1, high - 1, high):
                self.assertIs(value_fits(kind, value), True)
            for value in (low - 1, high + 1, 2 * high + 1, 10 ** 30, -10 ** 30):
                self.assertIs(value_fits(kind, value), False)

    def test_several_values(self):
        self.assertIs(values_fit((), ()), True)
        for kind, low, high in self.RANGES:
            other = "i32" if kind == "i64" else "i64"
            self.assertIs(values_fit((kind,), (low,)), True)
            self.assertIs(values_fit((other, kind), (0, high)), True)
            self.assertIs(values_fit((kind, other), (high + 1, 0)), False)
            self.assertIs(values_fit((other, kind, other), (0, low - 1, 0)), False)
        self.assertIs(values_fit(("i64", "i32"), (2147483648, 2147483647)), True)
        self.assertIs(values_fit(("i32", "i64"), (2147483648, 2147483647)), False)

    def test_one_value_more_or_less(self):
        for kinds, values in (((), (0,)), (("i32",), ()), (("i32",), (0, 0)), (("i32", "i64"), (0,)), (("i32", "i64"), (0, 0, 0))):
            self.assertIs(values_fit(kinds, values), False)


if __name__ == "__main__":
    unittest.main()

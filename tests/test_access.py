import unittest

from machines import linked, picture
from wasmhost.access import read_memory, read_table, read_variable, write_memory, write_table, write_variable
from wasmhost.errors import BadValues, Immutable, NoSuchItem, OutOfRange
from wasmhost.link import add_host
from wasmhost.machine.state import Machine
from wasmhost.store import Memory

PAGE = 65536

TEXT = """(module (func) (func) (table 3 funcref) (table 0 funcref) (memory 1) (global i32 (i32.const 5)) (global (mut i32) (i32.const 6))
(global (mut i64) (i64.const 7)) (elem (i32.const 1) func 1) (data (i32.const 2) "ab"))"""

# Numbers that name nothing where there are so many items.
def wrong(count):
    return (-1, count, count + 1, -count - 1, 2 ** 32, 10 ** 30, -10 ** 30)


class Access(unittest.TestCase):
    def setUp(self):
        self.store = linked(TEXT)
        self.store.memories.append(Memory(0, 16))
        self.store.memories.append(Memory(16, 16))

    def fault(self, error, parts, action, *arguments):
        """The call raises this error with these attributes and leaves the store and its arguments as they were."""
        before = picture(Machine(self.store))
        copies = [list(item) if isinstance(item, list) else item for item in arguments]
        with self.assertRaises(error) as caught:
            action(self.store, *arguments)
        self.assertEqual((type(caught.exception), vars(caught.exception)), (error, parts), arguments)
        self.assertEqual((picture(Machine(self.store)), list(arguments)), (before, copies))


class Memories(Access):
    def test_reading(self):
        self.assertEqual(read_memory(self.store, 0, 0, 6), [0, 0, 97, 98, 0, 0])
        self.assertEqual(read_memory(self.store, 0, 3, 1), [98])
        for memory, at, count in ((0, 0, 0), (0, PAGE, 0), (0, PAGE - 1, 1), (0, PAGE - 1000, 1000), (0, 0, 1000), (1, 0, 0),
                                  (2, 16 * PAGE, 0), (2, 16 * PAGE - 1, 1), (2, 16 * PAGE - 1000, 1000)):
            self.assertEqual(len(read_memory(self.store, memory, at, count)), count)

    def test_errors_of_reading(self):
        for memory in wrong(3):
            self.fault(NoSuchItem, {"kind": "memory", "index": memory}, read_memory, memory, -1, -1)
        for at in (-1, 1048577, -2 ** 40, 2 ** 40):
            self.fault(OutOfRange, {"what": "at"}, read_memory, 0, at, 0)
            self.fault(OutOfRange, {"what": "at"}, read_memory, 2, at, 0)
            self.fault(OutOfRange, {"what": "at"}, read_memory, 0, at, -1)
            self.fault(OutOfRange, {"what": "at"}, read_memory, 0, at, 1001)
        for count in (-1, 1001, -10 ** 20, 10 ** 20):
            self.fault(OutOfRange, {"what": "count"}, read_memory, 2, 0, count)
            self.fault(OutOfRange, {"what": "count"}, read_memory, 0, PAGE + 1, count)
            self.fault(OutOfRange, {"what": "count"}, read_memory, 1, 1048576, count)
        for memory, at, count in ((0, PAGE, 1), (0, PAGE + 1, 0), (0, PAGE - 999, 1000), (1, 0, 1), (1, 1, 0), (2, 1048576, 1),
                                  (2, 1048576, 1000), (0, 1048576, 0), (1, 1048576, 0)):
            self.fault(OutOfRange, {"what": "end"}, read_memory, memory, at, count)

    def test_writing(self):
        for data in ([1, 0, 255], (9, 8)):
            self.assertIsNone(write_memory(self.store, 0, 2, data))
            self.assertEqual(read_memory(self.store, 0, 2, len(data)), list(data))
        self.assertEqual(self.store.memories[0].cells, {2: 9, 3: 8, 4: 255})
        for memory, at, data in ((0, PAGE - 1, [5]), (0, PAGE, []), (1, 0, ()), (2, 1048576, []), (2, 1048575, (3,)), (2, 0, [1] * 1000),
                                 (0, 0, [0] * 1000)):
            write_memory(self.store, memory, at, data)
            self.assertEqual(read_memory(self.store, memory, at, len(data)), list(data))
        self.assertEqual(self.store.memories[0].cells, {PAGE - 1: 5})

    def test_errors_of_writing(self):
        for memory in wrong(3):
            self.fault(NoSuchItem, {"kind": "memory", "index": memory}, write_memory, memory, -1, [256])
        for at in (-1, 1048577):
            for data in ([], [1], [256], [0] * 1001):
                self.fault(OutOfRange, {"what": "at"}, write_memory, 0, at, data)
        for at in (0, PAGE, 1048576):
            self.fault(OutOfRange, {"what": "count"}, write_memory, 0, at, [0] * 1001)
            self.fault(OutOfRange, {"what": "count"}, write_memory, 0, at, (256,) * 1001)
        for byte in (-1, 256, 1000, -10 ** 30):
            for at in (0, PAGE - 1, PAGE, 1048576):
                for data in ([byte], (byte,), [0, 1, 255, byte], [byte] + [1] * 999):
                    self.fault(OutOfRange, {"what": "byte"}, write_memory, 0, at, data)
        for memory, at, data in ((0, PAGE, [1]), (0, PAGE + 1, []), (0, PAGE - 1, [1, 2]), (1, 0, (1,)), (1, 1, ()), (2, 1048576, [1]),
                                 (0, PAGE - 999, [255] * 1000)):
            self.fault(OutOfRange, {"what": "end"}, write_memory, memory, at, data)

    def test_lists_are_new(self):
        read_memory(self.store, 0, 2, 2)[0] = 5
        data = [1, 2]
        write_memory(self.store, 0, 0, data)
        data[0] = 7
        self.assertEqual(read_memory(self.store, 0, 0, 4), [1, 2, 97, 98])


class Variables(Access):
    def test_reading(self):
        self.assertEqual([read_variable(self.store, index) for index in range(3)], [5, 6, 7])
        for index in wrong(3):
            self.fault(NoSuchItem, {"kind": "global", "index": index}, read_variable, index)

    def test_writing(self):
        for index, values in ((1, (-2 ** 31, 2 ** 31 - 1, 0)), (2, (-2 ** 63, 2 ** 63 - 1, 2 ** 31))):
            for value in values:
                self.assertIsNone(write_variable(self.store, index, value))
                self.assertEqual(read_variable(self.store, index), value)
        self.assertEqual(read_variable(self.store, 0), 5)

    def test_errors_of_writing(self):
        for index in wrong(3):
            self.fault(NoSuchItem, {"kind": "global", "index": index}, write_variable, index, 2 ** 70)
        for value in (0, 5, 2 ** 31, 2 ** 70):
            self.fault(Immutable, {"index": 0}, write_variable, 0, value)
        for value in (-2 ** 31 - 1, 2 ** 31, 2 ** 63 - 1, 2 ** 70, -2 ** 70):
            self.fault(BadValues, {}, write_variable, 1, value)
        for value in (-2 ** 63 - 1, 2 ** 63, 2 ** 70, -2 ** 70):
            self.fault(BadValues, {}, write_variable, 2, value)


class Tables(Access):
    def test_reading(self):
        self.assertEqual([read_table(self.store, table) for table in range(2)], [[None, 1, None], []])
        for table in wrong(2):
            self.fault(NoSuchItem, {"kind": "table", "index": table}, read_table, table)
        read_table(self.store, 0)[0] = 5
        self.assertEqual(read_table(self.store, 0), [None, 1, None])

    def test_writing(self):
        host = add_host(self.store, (), ())
        for at, func in ((0, 0), (2, host), (1, None), (1, 1), (2, None)):
            self.assertIsNone(write_table(self.store, 0, at, func))
        self.assertEqual(read_table(self.store, 0), [0, 1, None])
        write_table(self.store, 0, 2, host)
        self.assertEqual(read_table(self.store, 0), [0, 1, 2])

    def test_errors_of_writing(self):
        for table in wrong(2):
            self.fault(NoSuchItem, {"kind": "table", "index": table}, write_table, table, -1, -1)
        for at in wrong(3):
            for func in (None, 0, 2, -1):
                self.fault(NoSuchItem, {"kind": "entry", "index": at}, write_table, 0, at, func)
        self.fault(NoSuchItem, {"kind": "entry", "index": 0}, write_table, 1, 0, None)
        for func in wrong(2):
            self.fault(NoSuchItem, {"kind": "func", "index": func}, write_table, 0, 1, func)


if __name__ == "__main__":
    unittest.main()

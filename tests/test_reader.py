import unittest

from support import (ACCESS_OPCODES, INSTRUCTION_BYTES, NUMBER_OPCODES, decode_fault, is_all_tuples, nested,
                     one_byte_opcodes)
from wasmhost.binary.reader import read_code, read_name
from wasmhost.binary.writer import write_code, write_name

# Longer forms than the shortest one, and what the writer never writes.
MORE_BYTES = [
    (("br", 0), [12, 128, 0]),
    (("br_table", (1,), 0), [14, 129, 128, 0, 129, 0, 128, 128, 0]),
    (("i32.const", -1), [65, 255, 255, 255, 255, 127]),
    (("i32.load", 2, 1), [40, 130, 0, 129, 128, 128, 128, 0]),
    (("block", 1, ()), [2, 129, 128, 128, 128, 0, 11]),
    (("try_table", None, ((None, 0),), ()), [31, 64, 129, 0, 2, 128, 0, 11]),
    (("if", None, (), ()), [4, 64, 5, 11]),
    (("if", None, (("nop",),), ()), [4, 64, 1, 5, 11]),
]

ALL_BYTES = INSTRUCTION_BYTES + MORE_BYTES

# The bytes of a fault in code, its reason, and the place of the fault among these bytes.
FAULTS = [
    ([5], "unknown instruction", 0),
    ([6], "unknown instruction", 0),
    ([18, 0], "unknown instruction", 0),
    ([255], "unknown instruction", 0),
    ([252, 8], "unknown instruction", 1),
    ([252, 9, 0], "unknown instruction", 1),
    ([252, 12, 0], "unknown instruction", 1),
    ([252, 138, 0, 0], "unknown instruction", 1),
    ([2, 64, 5], "unknown instruction", 2),
    ([3, 64, 1, 5], "unknown instruction", 3),
    ([31, 64, 0, 1, 5], "unknown instruction", 4),
    ([4, 64, 5, 1, 5], "unknown instruction", 4),
    ([4, 64, 2, 64, 5], "unknown instruction", 4),
    ([4, 64, 2, 64, 11, 5, 5], "unknown instruction", 6),
    ([63, 1], "invalid memory number", 1),
    ([64, 128, 0], "invalid memory number", 1),
    ([252, 10, 1, 0], "invalid memory number", 2),
    ([252, 10, 0, 1], "invalid memory number", 3),
    ([252, 11, 255], "invalid memory number", 2),
    ([12, 128, 128, 128, 128, 128], "number too long", 5),
    ([14, 1, 128, 128, 128, 128, 16], "number too large", 6),
    ([14, 0, 255, 255, 255, 255, 31], "number too large", 6),
    ([17, 255, 255, 255, 255, 16, 0], "number too large", 5),
    ([17, 0, 255, 255, 255, 255, 255], "number too long", 6),
    ([65, 128, 128, 128, 128, 8], "number too large", 5),
    ([65, 255, 255, 255, 255, 119], "number too large", 5),
    ([66, 255, 255, 255, 255, 255, 255, 255, 255, 255, 1], "number too large", 10),
    ([66, 128, 128, 128, 128, 128, 128, 128, 128, 128, 128], "number too long", 10),
    ([2, 65], "invalid shape", 1),
    ([2, 125, 11], "invalid shape", 1),
    ([3, 192, 127, 11], "invalid shape", 2),
    ([4, 255, 255, 127], "invalid shape", 3),
    ([31, 128, 128, 128, 128, 112], "invalid shape", 5),
    ([2, 128, 128, 128, 128, 16], "number too large", 5),
    ([2, 128, 128, 128, 128, 128], "number too long", 5),
    ([31, 64, 1, 1, 0, 0], "invalid catch", 3),
    ([31, 64, 2, 2, 0, 3, 0], "invalid catch", 5),
    ([31, 64, 1, 255], "invalid catch", 3),
    ([31, 64, 1, 0, 0, 255, 255, 255, 255, 16], "number too large", 9),
]
FAULTS += [([code, 32, 0], "alignment too great", 2) for code, _ in ACCESS_OPCODES]
FAULTS += [([code, 255, 255, 255, 255, 15, 255], "alignment too great", 6) for code, _ in ACCESS_OPCODES]
FAULTS += [([code, 31, 255, 255, 255, 255, 16], "number too large", 6) for code, _ in ACCESS_OPCODES]
FAULTS += [([code, 255, 255, 255, 255, 16], "number too large", 5) for code, _ in NUMBER_OPCODES]


class Code(unittest.TestCase):
    def test_each_instruction(self):
        for instruction, data in ALL_BYTES:
            with self.subTest(data):
                self.assertEqual(read_code(data + [11], 0, len(data) + 1), ((instruction,), len(data) + 1))

    def test_behind_and_in_front_of_other_bytes(self):
        for instruction, data in ALL_BYTES:
            around = [11, 5, 2] + data + [11] + [11, 200, 1]
            before = list(around)
            after = 4 + len(data)
            for end in range(after, len(around) + 1):
                with self.subTest(data=data, end=end):
                    self.assertEqual(read_code(around, 3, end), ((instruction,), after))
            self.assertEqual(around, before)

    def test_all_in_one_body(self):
        data = [byte for _, part in ALL_BYTES for byte in part] + [11]
        body, place = read_code(data, 0, len(data))
        self.assertEqual(body, tuple(instruction for instruction, _ in ALL_BYTES))
        self.assertEqual(place, len(data))

    def test_what_is_returned_is_made_of_tuples(self):
        data = [byte for _, part in ALL_BYTES for byte in part] + [11]
        self.assertTrue(is_all_tuples(read_code(data, 0, len(data))))

    def test_empty_body(self):
        self.assertEqual(read_code([11], 0, 1), ((), 1))

    def test_all_exponents(self):
        for exponent in range(32):
            self.assertEqual(read_code([40, exponent, 0, 11], 0, 4), ((("i32.load", exponent, 0),), 4))

    def test_each_byte_that_is_no_opcode(self):
        known = set(one_byte_opcodes().values()) | {11, 252}
        for code in range(256):
            if code not in known:
                decode_fault(self, "unknown instruction", 0, read_code, [code] + [0] * 9, 0, 10)
                decode_fault(self, "unknown instruction", 3, read_code, [1, 2, 64, code] + [0] * 9, 0, 13)

    def test_each_byte_behind_252(self):
        for code in range(256):
            if code not in (10, 11):
                decode_fault(self, "unknown instruction", 2, read_code, [1, 252, code, 0, 0, 11], 0, 6)


class Faults(unittest.TestCase):
    def test_straight(self):
        for data, reason, place in FAULTS:
            with self.subTest(data):
                decode_fault(self, reason, place, read_code, data + [11] * 9, 0, len(data) + 9)
                decode_fault(self, reason, place + 3, read_code, [11, 1, 26] + data + [11] * 9, 1, len(data) + 12)

    def test_inside_of_blocks(self):
        for front in ([2, 64], [3, 127], [4, 0], [31, 64, 1, 2, 0], [4, 64, 5], [2, 64, 2, 64, 1]):
            for data, reason, place in FAULTS:
                # The byte 5 ends the first code of an if.
                if front == [4, 0] and data == [5]:
                    continue
                with self.subTest(front=front, data=data):
                    size = len(front) + len(data)
                    decode_fault(self, reason, place + len(front), read_code, front + data + [11] * 9, 0, size + 9)

    def test_cut_at_each_place(self):
        data = [byte for _, part in ALL_BYTES for byte in part] + [11]
        for end in range(len(data)):
            decode_fault(self, "unexpected end", end, read_code, data, 0, end)
            decode_fault(self, "unexpected end", end, read_code, data[:end], 0, end)

    def test_list_stays_after_a_fault(self):
        for data, reason, place in FAULTS:
            before = list(data)
            decode_fault(self, reason, place, read_code, data, 0, len(data))
            self.assertEqual(data, before)

    def test_the_first_fault(self):
        decode_fault(self, "alignment too great", 2, read_code, [40, 40], 0, 2)
        decode_fault(self, "unexpected end", 2, read_code, [40, 31], 0, 2)
        decode_fault(self, "unexpected end", 1, read_code, [252], 0, 1)
        decode_fault(self, "unexpected end", 1, read_code, [63], 0, 1)
        decode_fault(self, "unexpected end", 1, read_code, [2], 0, 1)
        decode_fault(self, "invalid memory number", 2, read_code, [252, 10, 7, 255], 0, 4)


class Else(unittest.TestCase):
    def test_inside_of_an_if(self):
        self.assertEqual(read_code([4, 64, 1, 5, 26, 11, 11], 0, 7), ((("if", None, (("nop",),), (("drop",),)),), 7))
        data = [4, 64, 4, 64, 5, 11, 5, 1, 11, 11]
        self.assertEqual(read_code(data, 0, 10), ((("if", None, (("if", None, (), ()),), (("nop",),)),), 10))

    def test_outside_of_an_if(self):
        decode_fault(self, "unknown instruction", 0, read_code, [5, 11], 0, 2)
        decode_fault(self, "unknown instruction", 3, read_code, [4, 64, 11, 5, 11], 0, 5)
        decode_fault(self, "unknown instruction", 2, read_code, [2, 64, 5, 11, 11], 0, 5)

    def test_second_one(self):
        decode_fault(self, "unknown instruction", 3, read_code, [4, 64, 5, 5, 11, 11], 0, 6)


class Depth(unittest.TestCase):
    HEADS = ([2, 64], [3, 64], [4, 64], [31, 64, 0])

    def test_60_open(self):
        for head, name in zip(self.HEADS, ("block", "loop", "if", "try_table")):
            data = head * 60 + [11] * 61
            self.assertEqual(read_code(data, 0, len(data)), (nested(60, name), len(data)))

    def test_one_more(self):
        for head in self.HEADS:
            for last in self.HEADS:
                data = head * 60 + last + [11] * 62
                decode_fault(self, "nesting too deep", 60 * len(head), read_code, data, 0, len(data))
                # The opcode alone is the fault: what belongs behind it need not be there.
                data = head * 60 + last[:1]
                decode_fault(self, "nesting too deep", 60 * len(head), read_code, data, 0, len(data))

    def test_one_more_behind_others(self):
        data = [2, 64, 11] * 70 + [2, 64] * 59 + [3, 64, 11] * 5 + [4, 64, 5] + [1, 2, 64]
        decode_fault(self, "nesting too deep", len(data) - 2, read_code, data, 0, len(data))

    def test_closed_ones_do_not_count(self):
        data = [2, 64, 11] * 200 + [2, 64] * 59 + [3, 64, 11] * 100 + [11] * 60
        body, place = read_code(data, 0, len(data))
        self.assertEqual((len(body), place), (201, len(data)))

    def test_second_bodies(self):
        data = [4, 64, 5] * 60 + [11] * 61
        self.assertEqual(read_code(data, 0, len(data))[1], len(data))
        data = [4, 64, 5] * 60 + [1, 4] + [64] + [11] * 62
        decode_fault(self, "nesting too deep", 181, read_code, data, 0, len(data))


class ReadBack(unittest.TestCase):
    def test_written_code(self):
        for depth in range(0, 61, 12):
            for name in ("block", "loop", "if", "try_table"):
                data = [7] + write_code(nested(depth, name)) + [7]
                self.assertEqual(read_code(data, 1, len(data)), (nested(depth, name), len(data) - 1))


class Names(unittest.TestCase):
    CHARACTERS = "".join(chr(code) for code in range(32, 127) if code != 37)

    def test_names(self):
        self.assertEqual(read_name([0], 0, 1), ("", 1))
        self.assertEqual(read_name([9, 3, 97, 32, 126, 1], 1, 6), ("a ~", 5))
        self.assertEqual(read_name([131, 128, 0, 97, 98, 99], 0, 6), ("abc", 6))

    def test_each_character(self):
        for code in range(256):
            data = [2, 97, code, 97]
            if 32 <= code <= 126 and code != 37:
                self.assertEqual(read_name(data, 0, 4), ("a" + chr(code), 3))
            else:
                decode_fault(self, "invalid name character", 2, read_name, data, 0, 4)

    def test_written_names(self):
        for name in ("", "a", self.CHARACTERS[:60], self.CHARACTERS[-60:]):
            data = write_name(name)
            self.assertEqual(read_name(data, 0, len(data)), (name, len(data)))

    def test_too_long(self):
        self.assertEqual(read_name([60] + [97] * 60, 0, 61), ("a" * 60, 61))
        decode_fault(self, "name too long", 1, read_name, [61] + [97] * 61, 0, 62)
        decode_fault(self, "name too long", 3, read_name, [0, 189, 0], 1, 3)
        decode_fault(self, "name too long", 5, read_name, [255, 255, 255, 255, 15], 0, 5)
        decode_fault(self, "number too large", 4, read_name, [255, 255, 255, 255, 16], 0, 5)

    def test_missing_bytes(self):
        decode_fault(self, "unexpected end", 0, read_name, [], 0, 0)
        decode_fault(self, "unexpected end", 1, read_name, [1, 97], 0, 1)
        decode_fault(self, "unexpected end", 3, read_name, [3, 97, 97, 97], 0, 3)
        decode_fault(self, "invalid name character", 2, read_name, [3, 97, 37], 0, 3)

    def test_list_stays(self):
        data = [3, 97, 98, 99, 5]
        read_name(data, 0, 5)
        self.assertEqual(data, [3, 97, 98, 99, 5])


if __name__ == "__main__":
    unittest.main()

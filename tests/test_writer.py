import copy
import unittest

from support import INSTRUCTION_BYTES, nested, one_byte_opcodes
from wasmhost.binary.writer import write_code, write_name


class Code(unittest.TestCase):
    def test_empty_body(self):
        self.assertEqual(write_code(()), [11])

    def test_each_instruction(self):
        for instruction, data in INSTRUCTION_BYTES:
            with self.subTest(instruction):
                self.assertEqual(write_code((instruction,)), data + [11])

    def test_no_name_is_forgotten(self):
        names = {instruction[0] for instruction, _ in INSTRUCTION_BYTES}
        self.assertEqual(names, set(one_byte_opcodes()) | {"memory.copy", "memory.fill"})

    def test_all_in_one_body(self):
        body = tuple(instruction for instruction, _ in INSTRUCTION_BYTES)
        expected = [byte for _, data in INSTRUCTION_BYTES for byte in data] + [11]
        self.assertEqual(write_code(body), expected)

    def test_nested_60_deep(self):
        self.assertEqual(write_code(nested(60)), [2, 64] * 60 + [11] * 61)
        self.assertEqual(write_code(nested(60, "loop")), [3, 64] * 60 + [11] * 61)
        self.assertEqual(write_code(nested(60, "if")), [4, 64] * 60 + [11] * 61)
        self.assertEqual(write_code(nested(60, "try_table")), [31, 64, 0] * 60 + [11] * 61)

    def test_second_bodies_60_deep(self):
        body = (("nop",),)
        for _ in range(60):
            body = (("if", None, (), body),)
        self.assertEqual(write_code(body), [4, 64, 5] * 60 + [1] + [11] * 61)

    def test_somewhat_deeper(self):
        self.assertEqual(write_code(nested(75)), [2, 64] * 75 + [11] * 76)

    def test_argument_stays(self):
        body = tuple(instruction for instruction, _ in INSTRUCTION_BYTES)
        before = copy.deepcopy(body)
        self.assertIsInstance(write_code(body), list)
        self.assertEqual(body, before)


class Names(unittest.TestCase):
    def test_names(self):
        self.assertEqual(write_name(""), [0])
        self.assertEqual(write_name("a"), [1, 97])
        self.assertEqual(write_name(" ~"), [2, 32, 126])

    def test_60_characters(self):
        name = "".join(chr(code) for code in range(32, 127) if code != 37)
        self.assertEqual(write_name(name[:60]), [60] + [ord(character) for character in name[:60]])
        self.assertEqual(write_name(name[-60:]), [60] + [ord(character) for character in name[-60:]])


if __name__ == "__main__":
    unittest.main()

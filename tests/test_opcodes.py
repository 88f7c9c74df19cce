import unittest

from support import one_byte_opcodes
from wasmhost.binary.opcodes import instruction_name, opcode
from wasmhost.errors import UnknownInstruction

LETTERS = "abcxyz0123489_. A"


class Opcodes(unittest.TestCase):
    def fault(self, name):
        with self.assertRaises(UnknownInstruction) as caught:
            opcode(name)
        self.assertEqual(caught.exception.name, name)

    def test_each_name(self):
        for name, code in one_byte_opcodes().items():
            with self.subTest(name):
                self.assertEqual(opcode(name), [code])

    def test_names_with_two_bytes(self):
        self.assertEqual(opcode("memory.copy"), [252, 10])
        self.assertEqual(opcode("memory.fill"), [252, 11])

    def test_lists_are_new(self):
        for name in ("nop", "memory.copy"):
            before = list(opcode(name))
            opcode(name).append(1)
            self.assertEqual(opcode(name), before)

    def test_other_names(self):
        for name in ("", " ", "nop ", "end", "else", "i32.extend32_s", "i32", "i32.", "add", "f32.add", "i32.const 1",
                     "memory.init", "memory", "select t", "i64.wrap_i64", "i32.extend_i32_s", "None", "NOP", "252"):
            self.fault(name)

    def test_names_that_differ_by_one_character(self):
        known = dict(one_byte_opcodes())
        known["memory.copy"] = known["memory.fill"] = 0
        for name in known:
            others = {name[:at] + name[at + 1:] for at in range(len(name))}
            others |= {name[:at] + letter + name[at + 1:] for at in range(len(name)) for letter in LETTERS}
            others |= {name[:at] + letter + name[at:] for at in range(len(name) + 1) for letter in LETTERS}
            for other in sorted(others):
                if other not in known:
                    self.fault(other)


class Names(unittest.TestCase):
    def test_each_code(self):
        names = {code: name for name, code in one_byte_opcodes().items()}
        for code in range(256):
            with self.subTest(code):
                self.assertEqual(instruction_name(code), names.get(code))

    def test_codes_without_a_name(self):
        for code in (5, 11, 252, 6, 7, 9, 10, 18, 25, 28, 30, 37, 39, 42, 43, 56, 57, 67, 68, 91, 102, 139, 166, 168,
                     171, 174, 191, 197, 251, 253, 255):
            self.assertIsNone(instruction_name(code))


if __name__ == "__main__":
    unittest.main()

"""The examples of the document, as they stand there."""
import unittest

from wasmhost import errors

EXAMPLES = r'''
>>> from wasmhost.words import unsigned, signed, extend, word_bytes, bytes_word
>>> unsigned("i32", -1)
4294967295
>>> signed("i32", 2147483648)
-2147483648
>>> extend(511, 8)
-1
>>> word_bytes(-2, 3)
[254, 255, 255]
>>> bytes_word([1, 2])
513
>>> from wasmhost.numbers import signature_of, calculate
>>> signature_of("i64.lt_u")
(('i64', 'i64'), ('i32',))
>>> calculate("i32.add", (2147483647, 1))
-2147483648
>>> calculate("i32.div_s", (-7, 2))
-3
>>> calculate("i32.rem_s", (-2147483648, -1))
0
>>> calculate("i32.shr_u", (-1, 33))
2147483647
>>> calculate("i64.clz", (1,))
63
>>> calculate("i64.extend_i32_u", (-1,))
4294967295
>>> calculate("i32.div_u", (1, 0))
raises Trap("integer divide by zero")
>>> calculate("i32.add", (2147483648, 1))
raises BadValues
>>> from wasmhost.binary.numerals import write_unsigned, write_signed, read_unsigned, read_signed
>>> write_unsigned(300)
[172, 2]
>>> write_signed(-65)
[191, 127]
>>> read_unsigned([128, 0, 9], 0, 3, 32)
(0, 2)
>>> read_signed([127], 0, 1, 33)
(-1, 1)
>>> read_unsigned([128, 128], 0, 1, 32)
raises DecodeError("unexpected end", 1)
>>> from wasmhost.binary.reader import read_code
>>> read_code([65, 7, 2, 64, 11, 11, 9], 0, 7)
((('i32.const', 7), ('block', None, ())), 6)
>>> read_code([1, 5], 0, 2)
raises DecodeError("unknown instruction", 1)
>>> from wasmhost.modules import Module
>>> from wasmhost.binary.modules import encode, decode
>>> encode(Module(signatures=(((), ("i32",)),), functions=((0, (), (("i32.const", 7),)),)))
[0, 97, 115, 109, 1, 0, 0, 0, 1, 5, 1, 96, 0, 1, 127, 3, 2, 1, 0, 10, 6, 1, 4, 0, 65, 7, 11]
>>> decode([0, 97, 115, 109, 1, 0, 0, 0, 3, 2, 1, 0])
raises DecodeError("function count mismatch", 12)
'''


def pairs_of(text):
    """The pairs of a line behind >>> and the line behind it, which is None if it is another >>>."""
    lines = text.strip().split("\n")
    pairs = []
    for at, line in enumerate(lines):
        if line.startswith(">>> "):
            after = lines[at + 1] if at + 1 < len(lines) else ">>> "
            pairs.append((line[4:], None if after.startswith(">>> ") else after))
    return pairs


class Examples(unittest.TestCase):
    def check_error(self, code, expected, names):
        wanted = eval(expected, dict(vars(errors)))
        if isinstance(wanted, type):
            wanted = wanted()
        with self.assertRaises(errors.HostError) as caught:
            eval(code, names)
        self.assertIs(type(caught.exception), type(wanted))
        self.assertEqual(vars(caught.exception), vars(wanted))

    def test_each_example(self):
        names = {}
        for code, expected in pairs_of(EXAMPLES):
            with self.subTest(code):
                if expected is None:
                    exec(code, names)
                elif expected.startswith("raises "):
                    self.check_error(code, expected[len("raises "):], names)
                else:
                    self.assertEqual(repr(eval(code, names)), expected)


if __name__ == "__main__":
    unittest.main()

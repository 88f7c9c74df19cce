"""The examples of the document, as they stand there."""
import unittest

from wasmhost import errors

EXAMPLES = r'''
>>> from wasmhost.words import unsigned, signed, extend, word_bytes, bytes_word
>>> unsigned("i32", -1)
4294967295
>>> signed("i32", 2147483648)
-2147483648
>>> extend(511, 8)
-1
>>> word_bytes(-2, 3)
[254, 255, 255]
>>> bytes_word([1, 2])
513
>>> from wasmhost.numbers import signature_of, calculate
>>> signature_of("i64.lt_u")
(('i64', 'i64'), ('i32',))
>>> calculate("i32.add", (2147483647, 1))
-2147483648
>>> calculate("i32.div_s", (-7, 2))
-3
>>> calculate("i32.rem_s", (-2147483648, -1))
0
>>> calculate("i32.shr_u", (-1, 33))
2147483647
>>> calculate("i64.clz", (1,))
63
>>> calculate("i64.extend_i32_u", (-1,))
4294967295
>>> calculate("i32.div_u", (1, 0))
raises Trap("integer divide by zero")
>>> calculate("i32.add", (2147483648, 1))
raises BadValues
>>> from wasmhost.binary.numerals import write_unsigned, write_signed, read_unsigned, read_signed
>>> write_unsigned(300)
[172, 2]
>>> write_signed(-65)
[191, 127]
>>> read_unsigned([128, 0, 9], 0, 3, 32)
(0, 2)
>>> read_signed([127], 0, 1, 33)
(-1, 1)
>>> read_unsigned([128, 128], 0, 1, 32)
raises DecodeError("unexpected end", 1)
>>> from wasmhost.binary.reader import read_code
>>> read_code([65, 7, 2, 64, 11, 11, 9], 0, 7)
((('i32.const', 7), ('block', None, ())), 6)
>>> read_code([1, 5], 0, 2)
raises DecodeError("unknown instruction", 1)
>>> from wasmhost.modules import Module
>>> from wasmhost.binary.modules import encode, decode
>>> encode(Module(signatures=(((), ("i32",)),), functions=((0, (), (("i32.const", 7),)),)))
[0, 97, 115, 109, 1, 0, 0, 0, 1, 5, 1, 96, 0, 1, 127, 3, 2, 1, 0, 10, 6, 1, 4, 0, 65, 7, 11]
>>> decode([0, 97, 115, 109, 1, 0, 0, 0, 3, 2, 1, 0])
raises DecodeError("function count mismatch", 12)
>>> from wasmhost.text.tokens import tokens_of, number_of
>>> tokens_of("(a ;;b\n\"c\\0a\"")
[('(', '', 1, 1), ('word', 'a', 1, 2), ('string', (99, 10), 2, 1), ('end', '', 2, 7)]
>>> tokens_of("a (; b")
raises ParseError("comment does not end", 1, 3)
>>> number_of("0x1F")
31
>>> from wasmhost.text.modules import parse
>>> parse("(module (func (result i32) i32.const 7))").functions
((0, (), (('i32.const', 7),)),)
>>> parse("(module\n  (func i32.konst 1))")
raises ParseError("unknown instruction", 2, 9)
>>> from wasmhost.text.modules import parse
>>> from wasmhost.text.printer import print_module, print_string
>>> print_string((72, 34, 10))
'"H\\22\\0a"'
>>> print_module(parse("(module (func $f (param $n i32) (result i32) local.get $n i32.const 0x10 i32.mul) (start $f))"))
'(module\n  (type (func (param i32) (result i32)))\n  (func (type 0)\n    local.get 0\n    i32.const 16\n    i32.mul)\n  (start 0))'
>>> from wasmhost.engine import Engine
>>> from wasmhost.modules import Module
>>> engine = Engine()
>>> first = Module(memories=((1, None),), variables=(("i32", False, ("i32.const", 65535)),), exports=(("m", "memory", 0), ("at", "global", 0)))
>>> made = [engine.instantiate(first)]
>>> engine.publish(0, "a")
>>> second = Module(imports=(("a", "m", "memory", (1, None)), ("a", "at", "global", ("i32", False))), memory_segments=((0, ("i32.const", 0), (120,)), (0, ("global.get", 0), (121, 122))))
>>> made.append(engine.instantiate(second))
>>> (made, engine.names(), engine.read(0, 0, 2), engine.read(0, 65535, 1))
([(0, None), (1, 'out of bounds memory access')], [('a', 'm', 'memory', 0), ('a', 'at', 'global', 0)], [120, 0], [0])
>>> from wasmhost.modules import Module
>>> from wasmhost.engine import Engine
>>> add = (("local.get", 0), ("call", 1), ("i32.const", 1), ("i32.add",))
>>> double = (("local.get", 0), ("i32.const", 2), ("i32.mul",))
>>> module = Module(signatures=((("i32",), ("i32",)),), functions=((0, (), add), (0, (), double)))
>>> engine = Engine()
>>> made = engine.instantiate(module)
>>> engine.break_at(0, 2)
>>> engine.call(0, (5,))
>>> taken = engine.run(100)
>>> before = engine.frames()
>>> engine.set_local(0, 0, 7)
>>> more = [engine.over(100), engine.run(100)]
>>> (made, taken, before, more, engine.status())
((0, None), 6, [(0, 0, 2, (5,), (10,))], [1, 2], ('finished', (11,), 9))
>>> from wasmhost.judge import narrow
>>> narrow([1, 2, 3, 4, 5], [1, 2, 3, 0, 0])
(2, [2, 3])
>>> from wasmhost.engine import Engine
>>> Engine().save()
[87, 65, 83, 1, 0, 0, 0, 0, 0, 0, 0, 1, 0, 0, 0, 0, 0, 139, 36, 28, 24]
'''


def pairs_of(text):
    """The pairs of a line behind >>> and the line behind it, which is None if it is another >>>."""
    lines = text.strip().split("\n")
    pairs = []
    for at, line in enumerate(lines):
        if line.startswith(">>> "):
            after = lines[at + 1] if at + 1 < len(lines) else ">>> "
            pairs.append((line[4:], None if after.startswith(">>> ") else after))
    return pairs


class Examples(unittest.TestCase):
    def check_error(self, code, expected, names):
        wanted = eval(expected, dict(vars(errors)))
        if isinstance(wanted, type):
            wanted = wanted()
        with self.assertRaises(errors.HostError) as caught:
            eval(code, names)
        self.assertIs(type(caught.exception), type(wanted))
        self.assertEqual(vars(caught.exception), vars(wanted))

    def test_each_example(self):
        names = {}
        for code, expected in pairs_of(EXAMPLES):
            with self.subTest(code):
                if expected is None:
                    exec(code, names)
                elif expected.startswith("raises "):
                    self.check_error(code, expected[len("raises "):], names)
                else:
                    self.assertEqual(repr(eval(code, names)), expected)


if __name__ == "__main__":
    unittest.main()

import string
import unittest

from support import marked, parse_fault
from wasmhost.text.modules import parse
from wasmhost.text.tokens import number_of, tokens_of

IN_WORDS = string.ascii_letters + string.digits + "!#$&'*+-./:<=>?@\\^_`|~"

NOWHERE = ",[]{}"

HEXADECIMAL = "0123456789abcdefABCDEF"


def words_of(text):
    """The sorts and values of the tokens without the end."""
    return [token[:2] for token in tokens_of(text)[:-1]]


class Sorts(unittest.TestCase):
    def test_each_sort_with_its_position(self):
        self.assertEqual(tokens_of('(a "b")\n  x'), [
            ("(", "", 1, 1), ("word", "a", 1, 2), ("string", (98,), 1, 4), (")", "", 1, 7), ("word", "x", 2, 3),
            ("end", "", 2, 4)])

    def test_empty_texts(self):
        self.assertEqual(tokens_of(""), [("end", "", 1, 1)])
        self.assertEqual(tokens_of("\n"), [("end", "", 2, 1)])
        self.assertEqual(tokens_of(" \n\t "), [("end", "", 2, 3)])

    def test_end_behind_a_line_feed(self):
        self.assertEqual(tokens_of("a\n"), [("word", "a", 1, 1), ("end", "", 2, 1)])
        self.assertEqual(tokens_of("a\n\n "), [("word", "a", 1, 1), ("end", "", 3, 2)])

    def test_parentheses(self):
        self.assertEqual(tokens_of("(()"), [("(", "", 1, 1), ("(", "", 1, 2), (")", "", 1, 3), ("end", "", 1, 4)])

    def test_characters_of_words(self):
        for character in IN_WORDS:
            self.assertEqual(words_of(character), [("word", character)])
            self.assertEqual(words_of("a" + character + "b"), [("word", "a" + character + "b")])
        self.assertEqual(words_of(IN_WORDS), [("word", IN_WORDS)])

    def test_tokens_without_blanks_between(self):
        self.assertEqual(words_of('a"b"c(d)"e""f"'), [
            ("word", "a"), ("string", (98,)), ("word", "c"), ("(", ""), ("word", "d"), (")", ""),
            ("string", (101,)), ("string", (102,))])

    def test_a_tab_is_one_column(self):
        self.assertEqual(tokens_of("\t\ta\tb"), [("word", "a", 1, 3), ("word", "b", 1, 5), ("end", "", 1, 6)])

    def test_lines(self):
        self.assertEqual([token[2:] for token in tokens_of("a\n b\n\n  c d")],
                         [(1, 1), (2, 2), (4, 3), (4, 5), (4, 6)])

    def test_the_list_is_new(self):
        tokens_of("a").append(1)
        self.assertEqual(tokens_of("a"), [("word", "a", 1, 1), ("end", "", 1, 2)])


class Comments(unittest.TestCase):
    def test_line_comments(self):
        self.assertEqual(tokens_of(";; a ( \" ,\nb"), [("word", "b", 2, 1), ("end", "", 2, 2)])
        self.assertEqual(tokens_of("a;;b"), [("word", "a", 1, 1), ("end", "", 1, 5)])
        self.assertEqual(tokens_of("a;;"), [("word", "a", 1, 1), ("end", "", 1, 4)])
        self.assertEqual(tokens_of("a;;;;(;\n;;\nb"), [("word", "a", 1, 1), ("word", "b", 3, 1), ("end", "", 3, 2)])

    def test_block_comments(self):
        self.assertEqual(tokens_of("a(;b;)c"), [("word", "a", 1, 1), ("word", "c", 1, 7), ("end", "", 1, 8)])
        self.assertEqual(tokens_of("(;;)a"), [("word", "a", 1, 5), ("end", "", 1, 6)])
        self.assertEqual(tokens_of("(;\n\n;) a"), [("word", "a", 3, 4), ("end", "", 3, 5)])
        self.assertEqual(words_of("(; \" , ;; [ % \\ ) ( ;)a"), [("word", "a")])

    def test_nested_block_comments(self):
        for text in ("(;(;;);)a", "(; (; b ;) c ;)a", "(;(;(;;)(;;);)x;)a", "(;;;)a", "(;;;;)a", "(;);)a", "(;(;;)(;;);)a",
                     "(;();)a", "(;) (;(;;);) ;)a"):
            with self.subTest(text):
                self.assertEqual(words_of(text), [("word", "a")])

    def test_very_deep_comments(self):
        self.assertEqual(words_of("(;" * 5000 + ";)" * 5000 + "a"), [("word", "a")])
        parse_fault(self, "comment does not end", 1, 1, tokens_of, "(;" * 5000 + ";)" * 4999)

    def test_a_semicolon_belongs_to_one_mark(self):
        for text in ("@(;)", "a @(;);", "@(;(;)", "@(;(;);)", "@(;(;;)", "@(;", "@(; ;", "@(;;"):
            with self.subTest(text):
                text, line, column = marked(text)
                parse_fault(self, "comment does not end", line, column, tokens_of, text)

    def test_a_line_comment_does_not_end_a_block_comment(self):
        self.assertEqual(words_of("(; ;; ;)a"), [("word", "a")])
        self.assertEqual(words_of(";; (;\na ;; ;)"), [("word", "a")])

    def test_no_comments_in_strings(self):
        self.assertEqual(words_of('";;" "(;" a'), [("string", (59, 59)), ("string", (40, 59)), ("word", "a")])


class Strings(unittest.TestCase):
    def test_characters(self):
        for code in range(32, 127):
            if chr(code) not in '"\\%':
                self.assertEqual(words_of('"' + chr(code) + '"'), [("string", (code,))])
        self.assertEqual(words_of('""'), [("string", ())])

    def test_escapes(self):
        for letter, code in (("t", 9), ("n", 10), ('"', 34), ("'", 39), ("\\", 92)):
            self.assertEqual(words_of('"a\\' + letter + 'b"'), [("string", (97, code, 98))])

    def test_hexadecimal_escapes(self):
        for high in HEXADECIMAL:
            for low in HEXADECIMAL:
                self.assertEqual(words_of('"\\' + high + low + '0"'), [("string", (int(high + low, 16), 48))])

    def test_columns_count_characters_of_the_text(self):
        self.assertEqual(tokens_of('"\\41\\n" b')[1], ("word", "b", 1, 9))


class Faults(unittest.TestCase):
    def fault(self, reason, text):
        """The mark @ stands in front of the character at which the fault is."""
        text, line, column = marked(text)
        with self.subTest(text):
            parse_fault(self, reason, line, column, tokens_of, text)
            parse_fault(self, reason, line, column, parse, text)

    def test_unexpected_character(self):
        for character in NOWHERE + ";":
            for text in ("@{} ", "a@{}", "(a\n @{}b", '"a"@{}'):
                self.fault("unexpected character", text.format(character))
        self.fault("unexpected character", "a @;)")
        self.fault("unexpected character", "(; ;)@;)")
        self.fault("unexpected character", "@; ;")
        self.fault("unexpected character", "@;(;")
        self.fault("unexpected character", "(@,;)")

    def test_comment_does_not_end(self):
        self.fault("comment does not end", "a\n @(; (; ;)")
        self.fault("comment does not end", "@(;\n\n")
        self.fault("comment does not end", "(;;) @(; (; \n (;")

    def test_string_does_not_end(self):
        for text in ('"a@', '"a\\"@', '"@\n"', 'x "ab@\tc"', '"@', '"\\@', '"\\@\n', '"a\\@\t"', '"\\4@', '"\\4@\n1"', '"\\f@\t',
                     '(a\n "b"\n "c @\n")', '"\\41@', '"\\\\@'):
            self.fault("string does not end", text)

    def test_unknown_escape(self):
        for character in "abcdefgrsuvwxz0ANT(;, {`":
            self.fault("unknown escape", '"b@\\' + character + '"')
        for pair in ("4g", "4 ", "g4", "4\\", '4"', "0x", "u{", "-1"):
            self.fault("unknown escape", 'a\n"@\\' + pair + '"')

    def test_word_too_long(self):
        self.assertEqual(words_of("a" * 200), [("word", "a" * 200)])
        self.fault("word too long", "b @" + "a" * 201)
        self.fault("word too long", "\n@" + "a" * 1000)
        self.fault("word too long", "@" + "a" * 201 + ",")
        self.assertEqual(len(words_of("a" * 200 + '"' + "b" * 300 + '"' + "c" * 200)), 3)

    def test_the_first_fault(self):
        self.fault("unknown escape", '"@\\x" , (;')
        self.fault("unexpected character", 'a @, "\\x')
        # Tokens are found before anything else is read.
        self.fault("unexpected character", ") (foo @[")


class Numbers(unittest.TestCase):
    def test_decimal(self):
        for word, number in (("0", 0), ("7", 7), ("9", 9), ("10", 10), ("007", 7), ("4294967296", 4294967296),
                             ("00000000", 0), ("9" * 200, int("9" * 200)), ("0" * 199 + "1", 1)):
            self.assertEqual(number_of(word), number)

    def test_hexadecimal(self):
        for digit in HEXADECIMAL:
            self.assertEqual(number_of("0x" + digit), int(digit, 16))
        for word, number in (("0x0", 0), ("0x00ff", 255), ("0xDeadBeef", 3735928559), ("0x10", 16), ("0x" + "f" * 198, 16 ** 198 - 1),
                             ("0x" + "0" * 197 + "A", 10)):
            self.assertEqual(number_of(word), number)

    def test_no_numbers(self):
        for word in ("", "0x", "0X1", "1_0", "+1", "-1", "12a", "a", "ff", "x1", "1x1", "0xg", "0x1_0", "0x0x1", "0x 1", "1.0",
                     "1e3", "$1", "0b1", "0x-1", "--1", "1-", " 1", "1 "):
            self.assertIsNone(number_of(word), word)


if __name__ == "__main__":
    unittest.main()

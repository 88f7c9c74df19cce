"""The tokens of a text."""

from wasmhost.errors import ParseError

MOST_WORD = 200

BLANKS = " \t\n"

NOT_IN_WORDS = "\"(),;[]{}"

ESCAPES = {"t": 9, "n": 10, "\"": 34, "'": 39, "\\": 92}

DIGITS = "0123456789abcdef"


class Scanner:
    """A reading of a text, character by character."""

    def __init__(self, text):
        self.text = text
        self.at = 0
        self.line_number = 1
        self.line_start = 0

    def position(self):
        """Returns the line and the column of the next character."""
        return self.line_number, self.at - self.line_start + 1

    def ahead(self, count):
        """Returns the next characters, fewer at the end of the text."""
        return self.text[self.at:self.at + count]

    def skip(self, count):
        """Moves on behind so many characters."""
        for _ in range(count):
            self.at += 1
            if self.text[self.at - 1] == "\n":
                self.line_number += 1
                self.line_start = self.at


def digit_of(character):
    """Returns the number that a hexadecimal digit writes, or None."""
    digit = DIGITS.find(character.lower())
    if digit < 0:
        return None
    return digit


def number_of(word):
    """Returns the number that a word of digits writes, or None if it is no such word."""
    base = 10
    digits = word
    if word.startswith("0x"):
        base = 16
        digits = word[2:]
    if digits == "":
        return None
    number = 0
    for character in digits:
        digit = digit_of(character)
        if digit is None or digit >= base:
            return None
        number = number * base + digit
    return number


def is_in_word(character):
    """Returns True if the character, or "" at the end of the text, may stand in a word."""
    return "!" <= character <= "~" and character not in NOT_IN_WORDS


def skip_line_comment(scanner):
    """Moves on to the end of a line."""
    while scanner.ahead(1) not in ("", "\n"):
        scanner.skip(1)


def skip_block_comment(scanner):
    """Moves on behind a block comment, with the block comments inside of it."""
    line, column = scanner.position()
    scanner.skip(2)
    depth = 1
    while depth > 0:
        mark = scanner.ahead(2)
        if mark == "":
            raise ParseError("comment does not end", line, column)
        if mark == "(;":
            depth += 1
            scanner.skip(2)
        elif mark == ";)":
            depth -= 1
            scanner.skip(2)
        else:
            scanner.skip(1)


def skip_blanks(scanner):
    """Moves on to the next token or to the end of the text."""
    while True:
        mark = scanner.ahead(2)
        if mark == ";;":
            skip_line_comment(scanner)
        elif mark == "(;":
            skip_block_comment(scanner)
        elif mark != "" and mark[0] in BLANKS:
            scanner.skip(1)
        else:
            return


def check_in_string(scanner):
    """Checks that a string goes on with the next character."""
    if scanner.ahead(1) in ("", "\n", "\t"):
        line, column = scanner.position()
        raise ParseError("string does not end", line, column)


def read_escape(scanner):
    """Returns the byte that a backslash and what follows it write, and moves on behind them."""
    line, column = scanner.position()
    scanner.skip(1)
    check_in_string(scanner)
    character = scanner.ahead(1)
    if character in ESCAPES:
        scanner.skip(1)
        return ESCAPES[character]
    high = digit_of(character)
    if high is None:
        raise ParseError("unknown escape", line, column)
    scanner.skip(1)
    check_in_string(scanner)
    low = digit_of(scanner.ahead(1))
    if low is None:
        raise ParseError("unknown escape", line, column)
    scanner.skip(1)
    return high * 16 + low


def read_string(scanner):
    """Returns the tuple of the bytes that a string writes, and moves on behind it."""
    data = []
    scanner.skip(1)
    check_in_string(scanner)
    while scanner.ahead(1) != "\"":
        if scanner.ahead(1) == "\\":
            data.append(read_escape(scanner))
        else:
            data.append(ord(scanner.ahead(1)))
            scanner.skip(1)
        check_in_string(scanner)
    scanner.skip(1)
    return tuple(data)


def read_word(scanner):
    """Returns a word and moves on behind it."""
    line, column = scanner.position()
    start = scanner.at
    while is_in_word(scanner.ahead(1)):
        scanner.skip(1)
    word = scanner.text[start:scanner.at]
    if len(word) > MOST_WORD:
        raise ParseError("word too long", line, column)
    return word


def read_token(scanner):
    """Returns the sort and the value of the next token, and moves on behind it."""
    character = scanner.ahead(1)
    if character == "":
        return "end", ""
    if character in "()":
        scanner.skip(1)
        return character, ""
    if character == "\"":
        return "string", read_string(scanner)
    if is_in_word(character):
        return "word", read_word(scanner)
    line, column = scanner.position()
    raise ParseError("unexpected character", line, column)


def tokens_of(text):
    """Returns the list of the tokens of a text, the last of which is its end."""
    scanner = Scanner(text)
    tokens = []
    sort = ""
    while sort != "end":
        skip_blanks(scanner)
        position = scanner.position()
        sort, value = read_token(scanner)
        tokens.append((sort, value) + position)
    return tokens

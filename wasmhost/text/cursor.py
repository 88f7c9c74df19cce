"""What is read from tokens at many places: marks, words, numbers, indexes, constants and names."""

from wasmhost.characters import character_of
from wasmhost.errors import ParseError
from wasmhost.limits import MOST_CHARACTERS
from wasmhost.text.tokens import number_of
from wasmhost.words import signed, width


class Cursor:
    """A reading of tokens, from one place on."""

    def __init__(self, tokens):
        self.tokens = tokens
        self.at = 0

    def token(self):
        """Returns the next token."""
        return self.tokens[self.at]

    def pass_token(self):
        """Returns the next token and moves on behind it."""
        self.at += 1
        return self.tokens[self.at - 1]

    def begins_group(self, word):
        """Returns True if an opening parenthesis and this word are next."""
        return self.token()[0] == "(" and is_word(self.tokens[self.at + 1], word)

    def pass_group_head(self):
        """Moves on behind an opening parenthesis and a word."""
        self.at += 2


def fail(reason, token):
    """Raises the fault that a token is."""
    raise ParseError(reason, token[2], token[3])


def is_word(token, word):
    """Returns True if the token is this word."""
    return token[:2] == ("word", word)


def is_identifier(token):
    """Returns True if the token is an identifier."""
    return token[0] == "word" and token[1].startswith("$") and len(token[1]) > 1


def bounded_number(word):
    """Returns the number below 2**32 that a word writes, or None."""
    number = number_of(word)
    if number is None or number >= 1 << 32:
        return None
    return number


def is_number(token):
    """Returns True if the token is a number."""
    return token[0] == "word" and bounded_number(token[1]) is not None


def pass_mark(cursor, mark):
    """Moves on behind a parenthesis that must stand here."""
    token = cursor.pass_token()
    if token[0] != mark:
        fail(mark + " expected", token)


def pass_word(cursor, word):
    """Moves on behind a word that must stand here."""
    token = cursor.pass_token()
    if not is_word(token, word):
        fail(word + " expected", token)


def take_identifier(cursor):
    """Returns an identifier that may stand here and moves on behind it, or returns None."""
    if is_identifier(cursor.token()):
        return cursor.pass_token()[1]
    return None


def take_number(cursor):
    """Returns a number and moves on behind it."""
    token = cursor.pass_token()
    if not is_number(token):
        fail("number expected", token)
    return number_of(token[1])


def stands_for_index(token):
    """Returns True if the token is a number or an identifier."""
    return is_number(token) or is_identifier(token)


def take_index(cursor, known):
    """Returns an index and moves on behind it. `known` is a dict from identifiers to indexes."""
    token = cursor.pass_token()
    if not stands_for_index(token):
        fail("index expected", token)
    if is_number(token):
        return number_of(token[1])
    if token[1] not in known:
        fail("unknown identifier", token)
    return known[token[1]]


def signed_number_of(word):
    """Returns the number that a word of digits writes, perhaps with a sign before it, or None."""
    if not word.startswith("+") and not word.startswith("-"):
        return number_of(word)
    number = number_of(word[1:])
    if number is not None and word.startswith("-"):
        return -number
    return number


def take_constant(cursor, kind):
    """Returns the value of a constant of this kind and moves on behind it."""
    token = cursor.pass_token()
    number = None
    if token[0] == "word":
        number = signed_number_of(token[1])
    if number is None:
        fail("constant expected", token)
    bits = width(kind)
    if number < -(1 << (bits - 1)) or number >= 1 << bits:
        fail("constant too large", token)
    return signed(kind, number)


def take_string(cursor):
    """Returns the bytes of a string, a tuple, and moves on behind it."""
    token = cursor.pass_token()
    if token[0] != "string":
        fail("string expected", token)
    return token[1]


def take_name(cursor):
    """Returns a name that stands in a string and moves on behind it."""
    token = cursor.token()
    data = take_string(cursor)
    if len(data) > MOST_CHARACTERS:
        fail("name too long", token)
    characters = [character_of(code) for code in data]
    if None in characters:
        fail("invalid name character", token)
    return "".join(characters)


def take_kind(cursor):
    """Returns a kind and moves on behind it."""
    token = cursor.pass_token()
    if not is_word(token, "i32") and not is_word(token, "i64"):
        fail("kind expected", token)
    return token[1]

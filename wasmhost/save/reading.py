"""Parts of saves and records, read from numbers."""

from wasmhost.characters import character_of
from wasmhost.errors import DamagedSave
from wasmhost.reasons import REASONS
from wasmhost.save.writing import FIRST_CHARACTER, KINDS


class Source:
    """Numbers that are read one after another."""

    def __init__(self, numbers):
        self.numbers = numbers
        self.at = 0

    def take(self):
        """Returns the next number."""
        if self.at == len(self.numbers):
            raise DamagedSave("form")
        self.at = self.at + 1
        return self.numbers[self.at - 1]

    def take_list(self):
        """Returns the list of the numbers of a list of numbers."""
        count = self.take()
        first = self.at
        if count > len(self.numbers) - first:
            raise DamagedSave("form")
        self.at = first + count
        return self.numbers[first:first + count]

    def check_end(self):
        """Checks that no number is left over."""
        if self.at < len(self.numbers):
            raise DamagedSave("form")


def read_number(source):
    """Returns a number."""
    return source.take()


def read_choice(source, choices):
    """Returns the one of the choices that a number stands for."""
    number = source.take()
    if number >= len(choices):
        raise DamagedSave("form")
    return choices[number]


def read_list(source, read_item):
    """Returns the tuple of the items of a list, which are read by the given function."""
    items = []
    # Each item takes a number at least, so a length that is far too great comes to the end of the numbers.
    for _ in range(source.take()):
        items.append(read_item(source))
    return tuple(items)


def read_numbers(source):
    """Returns the tuple of a list of numbers."""
    return tuple(source.take_list())


def read_pair(source):
    """Returns a pair of numbers."""
    first = source.take()
    return first, source.take()


def read_bytes(source):
    """Returns the tuple of a list of bytes."""
    numbers = source.take_list()
    if max(numbers, default=0) > 255:
        raise DamagedSave("form")
    return tuple(numbers)


def read_value(source):
    """Returns a value."""
    number = source.take()
    if number & 1 == 1:
        return -(number + 1) // 2
    return number // 2


def read_values(source):
    """Returns the tuple of a list of values."""
    return read_list(source, read_value)


def read_kind(source):
    """Returns a kind."""
    return read_choice(source, KINDS)


def read_kinds(source):
    """Returns the tuple of a list of kinds."""
    return read_list(source, read_kind)


def read_signature(source):
    """Returns a signature."""
    params = read_kinds(source)
    return params, read_kinds(source)


def read_character(source):
    """Returns a character of a string."""
    character = character_of(source.take() + FIRST_CHARACTER)
    if character is None:
        raise DamagedSave("form")
    return character


def read_text(source):
    """Returns a string."""
    return "".join(read_list(source, read_character))


def read_reason(source):
    """Returns a reason."""
    return read_choice(source, REASONS)


def read_entry(source):
    """Returns an entry of a table: a function or None."""
    number = source.take()
    if number == 0:
        return None
    return number - 1


# By the sort of what is read.
READERS = {
    "kinds": read_kinds,
    "bytes": read_bytes,
    "numbers": read_numbers,
    "number": read_number,
    "values": read_values,
    "value": read_value,
    "reason": read_reason,
    "entry": read_entry,
}

"""Parts of saves and records as numbers."""

from wasmhost.reasons import REASONS

KINDS = ("i32", "i64")

# The character with the number 0.
FIRST_CHARACTER = 32


def write_number(number):
    """Returns the list of a number."""
    return [number]


def write_list(items, write_item):
    """Returns the numbers of a list whose items are written by the given function."""
    numbers = [len(items)]
    for item in items:
        numbers.extend(write_item(item))
    return numbers


def write_numbers(items):
    """Returns the numbers of a list of numbers."""
    return [len(items)] + list(items)


def write_pair(pair):
    """Returns the list of two numbers."""
    return list(pair)


def value_number(value):
    """Returns the number of a value."""
    if value < 0:
        return -2 * value - 1
    return 2 * value


def write_value(value):
    """Returns the list of the number of a value."""
    return [value_number(value)]


def write_values(values):
    """Returns the numbers of a list of values."""
    return write_numbers([value_number(value) for value in values])


def write_kind(kind):
    """Returns the list of the number of a kind."""
    return [KINDS.index(kind)]


def write_kinds(kinds):
    """Returns the numbers of a list of kinds."""
    return write_list(kinds, write_kind)


def write_signature(signature):
    """Returns the numbers of a signature."""
    params, results = signature
    return write_kinds(params) + write_kinds(results)


def write_text(text):
    """Returns the numbers of a string."""
    return write_numbers([ord(character) - FIRST_CHARACTER for character in text])


def write_reason(reason):
    """Returns the list of the number of a reason."""
    return [REASONS.index(reason)]


def write_entry(func):
    """Returns the list of the number of an entry of a table."""
    if func is None:
        return [0]
    return [func + 1]


# By the sort of what is written.
WRITERS = {
    "kinds": write_kinds,
    "bytes": write_numbers,
    "numbers": write_numbers,
    "number": write_number,
    "values": write_values,
    "value": write_value,
    "reason": write_reason,
    "entry": write_entry,
}

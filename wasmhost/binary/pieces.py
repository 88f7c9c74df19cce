"""Pieces of which files are made: numbers, marks, kinds, lists and parts with a size."""

from wasmhost.errors import DecodeError
from wasmhost.binary.numerals import byte_at, read_unsigned


def read_number(data, place, end):
    """Returns the number that begins at the place, and the place after it."""
    return read_unsigned(data, place, end, 32)


def read_mark(data, place, end, mark, reason):
    """Returns the place after a byte that must be the mark."""
    if byte_at(data, place, end) != mark:
        raise DecodeError(reason, place)
    return place + 1


def read_choice(data, place, end, choices, reason):
    """Returns the one of the choices that a byte stands for, and the place after it."""
    byte = byte_at(data, place, end)
    if byte >= len(choices):
        raise DecodeError(reason, place)
    return choices[byte], place + 1


def read_kind(data, place, end):
    """Returns a kind and the place after it."""
    byte = byte_at(data, place, end)
    if byte == 127:
        return "i32", place + 1
    if byte == 126:
        return "i64", place + 1
    raise DecodeError("invalid kind", place)


def read_items(data, place, end, count, read_item):
    """Returns the tuple of so many items, and the place after them."""
    items = []
    for _ in range(count):
        item, place = read_item(data, place, end)
        items.append(item)
    return tuple(items), place


def read_list(data, place, end, read_item):
    """Returns the tuple of the items of a list, and the place after it."""
    count, place = read_number(data, place, end)
    return read_items(data, place, end, count, read_item)


def read_part(data, place, end, read_content):
    """Returns the content of a part with a size, and the place after it."""
    size, place = read_number(data, place, end)
    stop = place + size
    content, after = read_content(data, place, min(stop, end))
    if after < min(stop, end):
        raise DecodeError("bytes left", after)
    if stop > end:
        raise DecodeError("unexpected end", end)
    return content, after

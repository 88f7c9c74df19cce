"""Numbers in groups of seven bits."""

from wasmhost.errors import DecodeError


def write_unsigned(number):
    """Returns the list of the bytes of an unsigned number."""
    data = []
    while number >= 128:
        data.append(128 + (number & 127))
        number = number >> 7
    data.append(number)
    return data


def write_signed(number):
    """Returns the list of the bytes of a signed number."""
    data = []
    while number < -64 or number > 63:
        data.append(128 + (number & 127))
        number = number >> 7
    data.append(number & 127)
    return data


def byte_at(data, place, end):
    """Returns the byte at the place, which must lie before the end."""
    if place >= end:
        raise DecodeError("unexpected end", end)
    return data[place]


def read_groups(data, place, end, bits):
    """Reads a number up to its last byte.

    Returns the sum of the groups before the last byte, this byte, the bits that are left for it, and its place.
    """
    low = 0
    left = bits
    byte = byte_at(data, place, end)
    while byte >= 128:
        if left <= 7:
            raise DecodeError("number too long", place)
        low = low + ((byte - 128) << (bits - left))
        left = left - 7
        place = place + 1
        byte = byte_at(data, place, end)
    return low, byte, left, place


def read_unsigned(data, place, end, bits):
    """Returns the unsigned number that begins at the place, and the place after it."""
    low, last, left, place = read_groups(data, place, end, bits)
    if left < 7 and last >= 1 << left:
        raise DecodeError("number too large", place)
    return low + (last << (bits - left)), place + 1


def read_signed(data, place, end, bits):
    """Returns the signed number that begins at the place, and the place after it."""
    low, last, left, place = read_groups(data, place, end, bits)
    if last >= 64:
        last = last - 128
    bound = 1 << (left - 1)
    if last < -bound or last >= bound:
        raise DecodeError("number too large", place)
    return low + (last << (bits - left)), place + 1

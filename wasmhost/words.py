"""Words: the bits and the bytes of integers."""


def width(kind):
    """Returns the number of bits of a kind."""
    if kind == "i32":
        return 32
    return 64


def unsigned(kind, number):
    """Returns the number from 0 to 2**n - 1 that has the lowest n bits of the number."""
    return number & ((1 << width(kind)) - 1)


def extend(number, bits):
    """Returns the lowest bits of the number, read as a signed number."""
    low = number & ((1 << bits) - 1)
    if low >> (bits - 1) == 0:
        return low
    return low - (1 << bits)


def signed(kind, number):
    """Returns the value of the kind that has the lowest n bits of the number."""
    return extend(number, width(kind))


def word_bytes(number, count):
    """Returns the list of the lowest bytes of the number, the lowest one first."""
    data = []
    for _ in range(count):
        data.append(number & 255)
        number = number >> 8
    return data


def bytes_word(data):
    """Returns the number that a list or tuple of bytes writes, the lowest byte first."""
    number = 0
    for byte in data[::-1]:
        number = (number << 8) + byte
    return number

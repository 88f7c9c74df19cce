"""Numbers of any size with a head and a check, as bytes."""

from wasmhost.errors import DamagedSave
from wasmhost.words import word_bytes

CHECK_MODULUS = 2147483647

CHECK_BYTES = 4

# So many that it pays to take four at once.
MANY_BYTES = 16


def mix_fours(check, data, modulus):
    """Does what `mix_behind` does for bytes whose number is a multiple of four: four of them at once take less time."""
    for first, second, third, fourth in zip(data[0::4], data[1::4], data[2::4], data[3::4]):
        # A byte b counts b + 1 times a power of 257; 17040900 is the sum of the first four powers.
        word = ((first * 257 + second) * 257 + third) * 257 + fourth
        check = (check * 4362470401 + word + 17040900) % modulus
    return check


def mix_behind(check, data, modulus):
    """Returns the check of bytes that stand behind others, whose check is given."""
    rest = data
    if len(data) >= MANY_BYTES:
        split = len(data) - len(data) % 4
        check = mix_fours(check, data[:split], modulus)
        rest = data[split:]
    for byte in rest:
        check = (check * 257 + byte + 1) % modulus
    return check


def mix(data, modulus):
    """Returns the check of a list or tuple of bytes with this modulus."""
    return mix_behind(0, data, modulus)


def check_bytes(data):
    """Returns the list of the check bytes of a list of bytes."""
    return word_bytes(mix(data, CHECK_MODULUS), CHECK_BYTES)


def number_bytes(numbers):
    """Returns the list of the bytes of numbers."""
    data = []
    for number in numbers:
        while number >= 128:
            data.append((number & 127) + 128)
            number = number >> 7
        data.append(number)
    return data


def pack(head, numbers):
    """Returns the list of the head, the bytes of the numbers, and the check bytes."""
    data = list(head) + number_bytes(numbers)
    return data + check_bytes(data)


def numbers_of(data):
    """Returns the list of the numbers that bytes write, each of them with as few bytes as possible."""
    numbers = []
    number = 0
    shift = 0
    for byte in data:
        if byte >= 128:
            number = number + ((byte - 128) << shift)
            shift = shift + 7
        elif shift == 0:
            numbers.append(byte)
        elif byte == 0:
            raise DamagedSave("numbers")
        else:
            numbers.append(number + (byte << shift))
            number = 0
            shift = 0
    if shift > 0:
        raise DamagedSave("numbers")
    return numbers


def unpack(head, data):
    """Returns the list of the numbers between a head and check bytes."""
    behind = len(data) - CHECK_BYTES
    if behind < len(head) or data[:len(head)] != list(head):
        raise DamagedSave("head")
    if data[behind:] != check_bytes(data[:behind]):
        raise DamagedSave("check")
    return numbers_of(data[len(head):behind])

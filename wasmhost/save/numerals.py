"""Numbers of any size with a head and a check, as bytes."""

from wasmhost.binary.numerals import write_unsigned
from wasmhost.errors import DamagedSave
from wasmhost.words import word_bytes

CHECK_MODULUS = 2147483647

CHECK_BYTES = 4


def mix(data, modulus):
    """Returns the check of a list or tuple of bytes with this modulus."""
    check = 0
    for byte in data:
        check = (check * 257 + byte + 1) % modulus
    return check


def check_bytes(data):
    """Returns the list of the check bytes of a list of bytes."""
    return word_bytes(mix(data, CHECK_MODULUS), CHECK_BYTES)


def pack(head, numbers):
    """Returns the list of the head, the bytes of the numbers, and the check bytes."""
    data = list(head)
    for number in numbers:
        data.extend(write_unsigned(number))
    return data + check_bytes(data)


def group_rows(data):
    """Returns the list of the lists of groups of seven bits, one list for each number, the lowest group first."""
    rows = []
    groups = []
    for byte in data:
        groups.append(byte & 127)
        if byte < 128:
            rows.append(groups)
            groups = []
    if len(groups) > 0:
        raise DamagedSave("numbers")
    return rows


def joined(groups):
    """Returns the number that groups of seven bits write, which must be as few as possible."""
    if len(groups) > 1 and groups[-1] == 0:
        raise DamagedSave("numbers")
    number = 0
    for part in groups[::-1]:
        number = (number << 7) + part
    return number


def unpack(head, data):
    """Returns the list of the numbers between a head and check bytes."""
    behind = len(data) - CHECK_BYTES
    if behind < len(head) or data[:len(head)] != list(head):
        raise DamagedSave("head")
    if data[behind:] != check_bytes(data[:behind]):
        raise DamagedSave("check")
    return [joined(groups) for groups in group_rows(data[len(head):behind])]

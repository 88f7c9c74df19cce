"""The numeric instructions."""

from wasmhost.errors import BadValues, Trap, UnknownInstruction
from wasmhost.words import extend, signed, unsigned, width

INSTRUCTIONS = (
    "i32.add", "i32.sub", "i32.mul", "i32.div_s", "i32.div_u", "i32.rem_s", "i32.rem_u",
    "i64.add", "i64.sub", "i64.mul", "i64.div_s", "i64.div_u", "i64.rem_s", "i64.rem_u",
    "i32.and", "i32.or", "i32.xor", "i64.and", "i64.or", "i64.xor",
    "i32.shl", "i32.shr_s", "i32.shr_u", "i32.rotl", "i32.rotr",
    "i64.shl", "i64.shr_s", "i64.shr_u", "i64.rotl", "i64.rotr",
    "i32.eqz", "i32.eq", "i32.ne", "i32.lt_s", "i32.lt_u", "i32.gt_s", "i32.gt_u",
    "i32.le_s", "i32.le_u", "i32.ge_s", "i32.ge_u",
    "i64.eqz", "i64.eq", "i64.ne", "i64.lt_s", "i64.lt_u", "i64.gt_s", "i64.gt_u",
    "i64.le_s", "i64.le_u", "i64.ge_s", "i64.ge_u",
    "i32.clz", "i32.ctz", "i32.popcnt", "i32.extend8_s", "i32.extend16_s",
    "i64.clz", "i64.ctz", "i64.popcnt", "i64.extend8_s", "i64.extend16_s", "i64.extend32_s",
    "i32.wrap_i64", "i64.extend_i32_s", "i64.extend_i32_u",
)

CONVERTED_KINDS = {"i32.wrap_i64": "i64", "i64.extend_i32_s": "i32", "i64.extend_i32_u": "i32"}

COMPARISONS = ("eqz", "eq", "ne", "lt_s", "lt_u", "gt_s", "gt_u", "le_s", "le_u", "ge_s", "ge_u")


def add(bits, a, b):
    """Returns the sum."""
    return a + b


def sub(bits, a, b):
    """Returns the difference."""
    return a - b


def mul(bits, a, b):
    """Returns the product."""
    return a * b


def quotient(bits, a, b):
    """Returns the quotient, rounded toward 0."""
    if b == 0:
        raise Trap("integer divide by zero")
    found = abs(a) // abs(b)
    if (a < 0) == (b < 0):
        return found
    return -found


def signed_quotient(bits, a, b):
    """Returns the quotient of signed forms, which must be a signed form itself."""
    found = quotient(bits, a, b)
    if found == 1 << (bits - 1):
        raise Trap("integer overflow")
    return found


def remainder(bits, a, b):
    """Returns what the quotient leaves."""
    return a - b * quotient(bits, a, b)


def both(bits, a, b):
    """Returns the bits that are 1 in both."""
    return a & b


def either(bits, a, b):
    """Returns the bits that are 1 in at least one."""
    return a | b


def differing(bits, a, b):
    """Returns the bits that are 1 in exactly one."""
    return a ^ b


def shift_left(bits, a, b):
    """Returns the bits moved up."""
    return a << (b & (bits - 1))


def shift_right(bits, a, b):
    """Returns the bits moved down; a form with a sign is filled up with its sign."""
    return a >> (b & (bits - 1))


def rotate(bits, a, by):
    """Returns the bits moved up, and those that leave at the top put in at the bottom."""
    word = low_bits(bits, a)
    return (word << by) | (word >> (bits - by))


def rotate_left(bits, a, b):
    """Returns the bits rotated up."""
    return rotate(bits, a, b & (bits - 1))


def rotate_right(bits, a, b):
    """Returns the bits rotated down."""
    return rotate(bits, a, -b & (bits - 1))


def same(bits, a, b):
    """Returns 1 if a equals b, otherwise 0."""
    return int(a == b)


def other(bits, a, b):
    """Returns 1 if a does not equal b, otherwise 0."""
    return int(a != b)


def less(bits, a, b):
    """Returns 1 if a is less than b, otherwise 0."""
    return int(a < b)


def greater(bits, a, b):
    """Returns 1 if a is greater than b, otherwise 0."""
    return int(a > b)


def at_most(bits, a, b):
    """Returns 1 if a is at most b, otherwise 0."""
    return int(a <= b)


def at_least(bits, a, b):
    """Returns 1 if a is at least b, otherwise 0."""
    return int(a >= b)


def is_zero(bits, a):
    """Returns 1 if a is 0, otherwise 0."""
    return int(a == 0)


def low_bits(bits, a):
    """Returns the unsigned form."""
    return a & ((1 << bits) - 1)


def leading_zeros(bits, a):
    """Returns the number of bits above the highest 1."""
    return bits - low_bits(bits, a).bit_length()


def trailing_zeros(bits, a):
    """Returns the number of bits below the lowest 1."""
    if a == 0:
        return bits
    return (a & -a).bit_length() - 1


def ones(bits, a):
    """Returns the number of bits that are 1."""
    word = low_bits(bits, a)
    count = 0
    while word > 0:
        count = count + (word & 1)
        word = word >> 1
    return count


def extend_8(bits, a):
    """Returns the lowest 8 bits as a signed number."""
    return extend(a, 8)


def extend_16(bits, a):
    """Returns the lowest 16 bits as a signed number."""
    return extend(a, 16)


def extend_32(bits, a):
    """Returns the lowest 32 bits as a signed number."""
    return extend(a, 32)


def unchanged(bits, a):
    """Returns the operand; the kind of the result does the conversion."""
    return a


ONE_OPERAND = {
    "eqz": is_zero,
    "clz": leading_zeros,
    "ctz": trailing_zeros,
    "popcnt": ones,
    "extend8_s": extend_8,
    "extend16_s": extend_16,
    "extend32_s": extend_32,
    "wrap_i64": unchanged,
    "extend_i32_s": unchanged,
    "extend_i32_u": unchanged,
}

TWO_OPERANDS = {
    "add": add,
    "sub": sub,
    "mul": mul,
    "div_s": signed_quotient,
    "div_u": quotient,
    "rem_s": remainder,
    "rem_u": remainder,
    "and": both,
    "or": either,
    "xor": differing,
    "shl": shift_left,
    "shr_s": shift_right,
    "shr_u": shift_right,
    "rotl": rotate_left,
    "rotr": rotate_right,
    "eq": same,
    "ne": other,
    "lt_s": less,
    "lt_u": less,
    "gt_s": greater,
    "gt_u": greater,
    "le_s": at_most,
    "le_u": at_most,
    "ge_s": at_least,
    "ge_u": at_least,
}


def signature_of(name):
    """Returns the signature of a numeric instruction."""
    if name not in INSTRUCTIONS:
        raise UnknownInstruction(name)
    kind = name[:3]
    word = name[4:]
    taken = CONVERTED_KINDS.get(name, kind)
    results = (kind,)
    if word in COMPARISONS:
        results = ("i32",)
    if word in ONE_OPERAND:
        return (taken,), results
    return (taken, taken), results


def in_range(kinds, operands):
    """Returns True if there is one operand in range for each kind, otherwise False."""
    if len(kinds) != len(operands):
        return False
    for kind, operand in zip(kinds, operands):
        if signed(kind, operand) != operand:
            return False
    return True


def forms_of(kind, word, operands):
    """Returns the list of the operands in the form that the word reads them in."""
    if word.endswith("_u"):
        return [unsigned(kind, operand) for operand in operands]
    return list(operands)


def calculate(name, operands):
    """Returns the result of a numeric instruction."""
    params, results = signature_of(name)
    if not in_range(params, operands):
        raise BadValues()
    word = name[4:]
    bits = width(params[0])
    forms = forms_of(params[0], word, operands)
    if word in ONE_OPERAND:
        action = ONE_OPERAND[word]
        return signed(results[0], action(bits, forms[0]))
    action = TWO_OPERANDS[word]
    return signed(results[0], action(bits, forms[0], forms[1]))

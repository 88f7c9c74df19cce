import unittest

from wasmhost.errors import BadValues, Trap, UnknownInstruction
from wasmhost.numbers import INSTRUCTIONS, calculate, signature_of

WIDTHS = {"i32": 32, "i64": 64}

ARITHMETIC = ["add", "sub", "mul", "div_s", "div_u", "rem_s", "rem_u"]
BITS = ["and", "or", "xor"]
SHIFTS = ["shl", "shr_u", "shr_s", "rotl", "rotr"]
COMPARISONS = ["eq", "ne", "lt_s", "lt_u", "gt_s", "gt_u", "le_s", "le_u", "ge_s", "ge_u"]
COUNTS = ["clz", "ctz", "popcnt"]

ZERO = "integer divide by zero"
OVERFLOW = "integer overflow"


def values_of(bits):
    """The edges of a kind, and numbers around the powers of two."""
    half = 2 ** (bits - 1)
    powers = [2 ** power for power in (0, 1, 2, 3, 5, 7, 8, 15, 16, 30, 31, 32, 33, 47, 62, 63) if power < bits]
    found = {0, 1, -1, half - 1, -half, -half + 1, half - 2, 0x5A5A5A5A % half, -12345}
    found |= {sign * power + step for power in powers for sign in (-1, 1) for step in (-1, 0, 1)}
    return sorted(number for number in found if -half <= number < half)


def unsigned_form(bits, number):
    return number if number >= 0 else number + 2 ** bits


def bit(bits, number, at):
    return unsigned_form(bits, number) // 2 ** at % 2


def value_of_bits(row):
    """The value whose bits these are, the lowest first."""
    number = sum(one * 2 ** at for at, one in enumerate(row))
    return number - 2 ** len(row) if row[-1] == 1 else number


def wrapped(bits, number):
    number = number % 2 ** bits
    return number if number < 2 ** (bits - 1) else number - 2 ** bits


def toward_zero(a, b):
    return abs(a) // abs(b) * (1 if (a < 0) == (b < 0) else -1)


def arithmetic(bits, word, a, b):
    """The result, or the reason of a trap, a string, as point 108 says."""
    ua, ub = unsigned_form(bits, a), unsigned_form(bits, b)
    if word in ("div_s", "div_u", "rem_s", "rem_u") and b == 0:
        return ZERO
    if word == "div_s" and a == -2 ** (bits - 1) and b == -1:
        return OVERFLOW
    if word == "div_s":
        return wrapped(bits, toward_zero(a, b))
    if word == "div_u":
        return wrapped(bits, ua // ub)
    if word == "rem_s":
        return wrapped(bits, 0 if b == -1 else a - b * toward_zero(a, b))
    if word == "rem_u":
        return wrapped(bits, ua % ub)
    return wrapped(bits, {"add": a + b, "sub": a - b, "mul": a * b}[word])


def combined(bits, word, a, b):
    """The result as point 109 says."""
    row = []
    for at in range(bits):
        ones = bit(bits, a, at) + bit(bits, b, at)
        row.append(int({"and": ones == 2, "or": ones >= 1, "xor": ones == 1}[word]))
    return value_of_bits(row)


def shifted(bits, word, a, b):
    """The result as point 110 says."""
    k = unsigned_form(bits, b) % bits
    row = []
    for j in range(bits):
        if word == "shl":
            row.append(bit(bits, a, j - k) if j >= k else 0)
        elif word == "shr_u":
            row.append(bit(bits, a, j + k) if j + k < bits else 0)
        elif word == "shr_s":
            row.append(bit(bits, a, j + k) if j + k < bits else bit(bits, a, bits - 1))
        elif word == "rotl":
            row.append(bit(bits, a, (j - k) % bits))
        else:
            row.append(bit(bits, a, (j + k) % bits))
    return value_of_bits(row)


def compared(bits, word, a, b):
    """The result as point 111 says."""
    if word.endswith("_u"):
        a, b = unsigned_form(bits, a), unsigned_form(bits, b)
    return int({"eq": a == b, "ne": a != b, "lt": a < b, "gt": a > b, "le": a <= b, "ge": a >= b}[word[:2]])


def counted(bits, word, a):
    """The result as point 112 says."""
    row = [bit(bits, a, at) for at in range(bits)]
    if word == "popcnt":
        return sum(row)
    if word == "clz":
        row.reverse()
    return row.index(1) if 1 in row else bits


class Signatures(unittest.TestCase):
    def expected(self):
        found = {}
        for kind in WIDTHS:
            for word in ARITHMETIC + BITS + SHIFTS:
                found[kind + "." + word] = ((kind, kind), (kind,))
            for word in COMPARISONS:
                found[kind + "." + word] = ((kind, kind), ("i32",))
            for word in COUNTS + ["extend8_s", "extend16_s"]:
                found[kind + "." + word] = ((kind,), (kind,))
            found[kind + ".eqz"] = ((kind,), ("i32",))
        found["i64.extend32_s"] = (("i64",), ("i64",))
        found["i32.wrap_i64"] = (("i64",), ("i32",))
        found["i64.extend_i32_s"] = (("i32",), ("i64",))
        found["i64.extend_i32_u"] = (("i32",), ("i64",))
        return found

    def test_names(self):
        self.assertIsInstance(INSTRUCTIONS, tuple)
        self.assertEqual(len(INSTRUCTIONS), 66)
        self.assertEqual(sorted(INSTRUCTIONS), sorted(self.expected()))

    def test_each_signature(self):
        for name, signature in self.expected().items():
            with self.subTest(name):
                self.assertEqual(signature_of(name), signature)

    def test_unknown_names(self):
        for name in ("", "i32", "i32.", "add", "i32.extend32_s", "i64.wrap_i64", "i32.extend_i32_s", "i32.wrap_i32",
                     "i32.div", "f32.add", "i32.add ", "I32.add", "i33.add", "i32_add", "i32.load", "i32.const", "nop"):
            with self.subTest(name):
                with self.assertRaises(UnknownInstruction) as caught:
                    signature_of(name)
                self.assertEqual(caught.exception.name, name)


class Results(unittest.TestCase):
    def check_all(self, words, expected):
        for kind, bits in WIDTHS.items():
            values = values_of(bits)
            for word in words:
                name = kind + "." + word
                for a in values:
                    for b in values:
                        self.check(name, (a, b), expected(bits, word, a, b))

    def check(self, name, operands, expected):
        try:
            found = calculate(name, operands)
        except Trap as trap:
            found = trap.reason
        if found != expected or type(found) is not type(expected):
            self.fail("%s%r gives %r instead of %r" % (name, operands, found, expected))

    def test_arithmetic(self):
        self.check_all(ARITHMETIC, arithmetic)

    def test_bits(self):
        self.check_all(BITS, combined)

    def test_shifts(self):
        self.check_all(SHIFTS, shifted)

    def test_comparisons(self):
        self.check_all(COMPARISONS, compared)

    def test_shift_counts(self):
        for kind, bits in WIDTHS.items():
            half = 2 ** (bits - 1)
            counts = list(range(-2 * bits - 1, 2 * bits + 2)) + [half - 1, -half]
            for word in SHIFTS:
                for a in (1, -1, 2, half - 1, -half, 0x12345678, -0x12345678):
                    for b in counts:
                        self.check(kind + "." + word, (a, b), shifted(bits, word, a, b))

    def test_counts(self):
        for kind, bits in WIDTHS.items():
            for a in values_of(bits) + [2 ** power for power in range(bits - 1)]:
                for word in COUNTS:
                    self.check(kind + "." + word, (a,), counted(bits, word, a))
                self.check(kind + ".eqz", (a,), int(a == 0))

    def test_extensions(self):
        for kind, bits in WIDTHS.items():
            for a in values_of(bits):
                for small in (8, 16, 32):
                    if small < bits:
                        name = "%s.extend%d_s" % (kind, small)
                        self.check(name, (a,), wrapped(small, a))

    def test_conversions(self):
        for a in values_of(64):
            self.check("i32.wrap_i64", (a,), wrapped(32, a))
        for a in values_of(32):
            self.check("i64.extend_i32_s", (a,), a)
            self.check("i64.extend_i32_u", (a,), unsigned_form(32, a))

    def test_written_out(self):
        least = {"i32": -2 ** 31, "i64": -2 ** 63}
        for kind, bits in WIDTHS.items():
            for word, operands, expected in (
                    ("div_s", (-7, 2), -3), ("div_s", (7, -2), -3), ("div_u", (-1, 2), 2 ** (bits - 1) - 1),
                    ("rem_s", (-7, 2), -1), ("rem_s", (7, -2), 1), ("rem_u", (-1, 10), 5),
                    ("rem_s", (least[kind], -1), 0), ("rem_s", (5, -1), 0), ("div_u", (least[kind], -1), 0),
                    ("rem_u", (least[kind], -1), least[kind]), ("shr_s", (-8, 1), -4), ("shl", (1, bits - 1), least[kind]),
                    ("shl", (1, bits), 1), ("shl", (3, bits + 1), 6), ("shr_u", (-1, -1), 1),
                    ("rotl", (least[kind], 1), 1), ("rotr", (1, 1), least[kind]), ("rotl", (5, 0), 5),
                    ("lt_s", (-1, 0), 1), ("lt_u", (-1, 0), 0), ("ge_u", (-1, 0), 1), ("clz", (0,), bits),
                    ("ctz", (0,), bits), ("ctz", (least[kind],), bits - 1), ("popcnt", (-1,), bits), ("clz", (-1,), 0)):
                self.check(kind + "." + word, operands, expected)


class Traps(unittest.TestCase):
    def trap(self, name, operands, reason):
        with self.assertRaises(Trap) as caught:
            calculate(name, operands)
        self.assertEqual(caught.exception.reason, reason)

    def test_divide_by_zero(self):
        for kind, bits in WIDTHS.items():
            for word in ("div_s", "div_u", "rem_s", "rem_u"):
                for a in (0, 1, -1, -2 ** (bits - 1), 2 ** (bits - 1) - 1):
                    self.trap(kind + "." + word, (a, 0), ZERO)

    def test_overflow(self):
        for kind, bits in WIDTHS.items():
            self.trap(kind + ".div_s", (-2 ** (bits - 1), -1), OVERFLOW)
            self.assertEqual(calculate(kind + ".div_s", (-2 ** (bits - 1) + 1, -1)), 2 ** (bits - 1) - 1)
            self.assertEqual(calculate(kind + ".div_s", (-2 ** (bits - 1), 1)), -2 ** (bits - 1))

    def test_remainder_does_not_overflow(self):
        for kind, bits in WIDTHS.items():
            self.assertEqual(calculate(kind + ".rem_s", (-2 ** (bits - 1), -1)), 0)


class Faults(unittest.TestCase):
    def test_unknown_name_comes_first(self):
        for operands in ((), (2 ** 40,), (1, 0), (1, 2, 3)):
            with self.assertRaises(UnknownInstruction) as caught:
                calculate("i32.divide", operands)
            self.assertEqual(caught.exception.name, "i32.divide")

    def test_wrong_operands_come_before_a_trap(self):
        for name, operands in (("i32.div_s", (2 ** 31, 0)), ("i32.rem_u", (1, 0, 0)), ("i64.div_u", (2 ** 63, 0)),
                               ("i64.div_s", (-2 ** 63, -1, 0)), ("i32.div_s", (0,))):
            with self.assertRaises(BadValues):
                calculate(name, operands)

    def test_number_of_operands(self):
        for name in INSTRUCTIONS:
            right = len(signature_of(name)[0])
            for count in range(4):
                if count != right:
                    with self.subTest(name=name, count=count), self.assertRaises(BadValues):
                        calculate(name, (1,) * count)

    def test_ranges(self):
        for name in INSTRUCTIONS:
            params = signature_of(name)[0]
            for at, kind in enumerate(params):
                half = 2 ** (WIDTHS[kind] - 1)
                for number in (half, -half - 1, 2 * half, 256 ** 20):
                    operands = [1] * len(params)
                    operands[at] = number
                    with self.subTest(name=name, operands=operands), self.assertRaises(BadValues):
                        calculate(name, tuple(operands))
                for number in (half - 1, -half):
                    operands = [1] * len(params)
                    operands[at] = number
                    calculate(name, tuple(operands))


if __name__ == "__main__":
    unittest.main()

import unittest

from wasmhost.words import bytes_word, extend, signed, unsigned, width, word_bytes

NUMBERS = sorted({sign * 2 ** power + step for sign in (-1, 1) for power in list(range(0, 70)) + [127, 500, 1000]
                  for step in (-1, 0, 1)} | {0, 123456789012345678901234567890, -98765432109876543210987654321})

WIDTHS = {"i32": 32, "i64": 64}


class Widths(unittest.TestCase):
    def test_width(self):
        self.assertEqual((width("i32"), width("i64")), (32, 64))


class Forms(unittest.TestCase):
    def test_unsigned(self):
        for kind, bits in WIDTHS.items():
            for number in NUMBERS:
                form = unsigned(kind, number)
                self.assertTrue(0 <= form <= 2 ** bits - 1)
                self.assertEqual((number - form) % 2 ** bits, 0)

    def test_signed(self):
        for kind, bits in WIDTHS.items():
            for number in NUMBERS:
                form = signed(kind, number)
                self.assertTrue(-2 ** (bits - 1) <= form <= 2 ** (bits - 1) - 1)
                self.assertEqual((number - form) % 2 ** bits, 0)

    def test_ends_of_the_ranges(self):
        for kind, bits in WIDTHS.items():
            half, whole = 2 ** (bits - 1), 2 ** bits
            self.assertEqual([unsigned(kind, number) for number in (0, whole - 1, whole, -1, -whole, half)],
                             [0, whole - 1, 0, whole - 1, 0, half])
            self.assertEqual([signed(kind, number) for number in (half - 1, half, -half, -half - 1, whole - 1, whole)],
                             [half - 1, -half, -half, half - 1, -1, 0])

    def test_values_stay_values(self):
        for kind, bits in WIDTHS.items():
            for number in NUMBERS:
                if -2 ** (bits - 1) <= number < 2 ** (bits - 1):
                    self.assertEqual(signed(kind, number), number)
                if 0 <= number < 2 ** bits:
                    self.assertEqual(unsigned(kind, number), number)


class Extend(unittest.TestCase):
    def test_each_count_of_bits(self):
        for bits in range(1, 65):
            for number in NUMBERS:
                found = extend(number, bits)
                self.assertTrue(-2 ** (bits - 1) <= found <= 2 ** (bits - 1) - 1)
                self.assertEqual((number - found) % 2 ** bits, 0)

    def test_written_out(self):
        for number, bits, found in ((0, 1, 0), (1, 1, -1), (2, 1, 0), (127, 8, 127), (128, 8, -128), (255, 8, -1),
                                    (256, 8, 0), (-129, 8, 127), (2 ** 63, 64, -2 ** 63), (2 ** 64 - 1, 64, -1)):
            self.assertEqual(extend(number, bits), found)


class Bytes(unittest.TestCase):
    def test_each_count(self):
        for count in range(9):
            for number in NUMBERS:
                data = word_bytes(number, count)
                self.assertIsInstance(data, list)
                self.assertEqual(len(data), count)
                self.assertTrue(all(0 <= byte <= 255 for byte in data))
                total = sum(byte * 256 ** at for at, byte in enumerate(data))
                self.assertEqual((number - total) % 256 ** count, 0)
                self.assertEqual(bytes_word(data), total)

    def test_written_out(self):
        self.assertEqual(word_bytes(5, 0), [])
        self.assertEqual(word_bytes(-1, 2), [255, 255])
        self.assertEqual(word_bytes(0x0102030405060708, 8), [8, 7, 6, 5, 4, 3, 2, 1])
        self.assertEqual(word_bytes(0x0102030405060708, 3), [8, 7, 6])

    def test_lists_and_tuples(self):
        self.assertEqual(bytes_word([]), 0)
        self.assertEqual(bytes_word(()), 0)
        self.assertEqual(bytes_word([0, 0]), 0)
        self.assertEqual(bytes_word((1, 2, 3)), 1 + 2 * 256 + 3 * 65536)
        self.assertEqual(bytes_word([1, 2, 3]), 1 + 2 * 256 + 3 * 65536)

    def test_64_bytes(self):
        self.assertEqual(bytes_word([255] * 64), 256 ** 64 - 1)
        self.assertEqual(bytes_word((0,) * 63 + (1,)), 256 ** 63)

    def test_argument_stays(self):
        data = [1, 2, 3]
        bytes_word(data)
        self.assertEqual(data, [1, 2, 3])


if __name__ == "__main__":
    unittest.main()

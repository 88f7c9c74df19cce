import unittest

from support import decode_fault
from wasmhost.binary.numerals import read_signed, read_unsigned, write_signed, write_unsigned

UNSIGNED = sorted({number for power in range(10) for scale in (1, 2) for step in (-2, -1, 0, 1, 2)
                   for number in [128 ** power // scale + step] if 0 <= number < 2 ** 64}
                  | {0, 1, 63, 64, 2 ** 31 - 1, 2 ** 31, 2 ** 32 - 1, 2 ** 32, 2 ** 64 - 2, 2 ** 64 - 1})

SIGNED = sorted({number for size in UNSIGNED for number in (size, -size, -size - 1) if -2 ** 63 <= number < 2 ** 63}
                | {-2 ** 63, -2 ** 63 + 1, 2 ** 63 - 1})


def groups_of(data):
    """The groups of the bytes of a number, checked for where the number ends."""
    assert all(128 <= byte < 256 for byte in data[:-1]) and 0 <= data[-1] < 128
    return [byte & 127 for byte in data]


def summed(groups):
    return sum(group * 128 ** at for at, group in enumerate(groups))


class Writing(unittest.TestCase):
    def test_written_out(self):
        for number, data in ((0, [0]), (1, [1]), (63, [63]), (64, [64]), (127, [127]), (128, [128, 1]),
                             (300, [172, 2]), (16383, [255, 127]), (16384, [128, 128, 1]),
                             (2 ** 32 - 1, [255, 255, 255, 255, 15]), (2 ** 64 - 1, [255] * 9 + [1])):
            self.assertEqual(write_unsigned(number), data)

    def test_signed_written_out(self):
        for number, data in ((0, [0]), (1, [1]), (-1, [127]), (63, [63]), (64, [192, 0]), (-64, [64]),
                             (-65, [191, 127]), (127, [255, 0]), (128, [128, 1]), (-128, [128, 127]),
                             (8191, [255, 63]), (8192, [128, 192, 0]), (-8192, [128, 64]), (-8193, [255, 191, 127]),
                             (2 ** 63 - 1, [255] * 9 + [0]), (-2 ** 63, [128] * 9 + [127])):
            self.assertEqual(write_signed(number), data)

    def test_unsigned_form(self):
        for number in UNSIGNED:
            data = write_unsigned(number)
            with self.subTest(number):
                self.assertIsInstance(data, list)
                groups = groups_of(data)
                self.assertEqual(summed(groups), number)
                self.assertTrue(len(groups) == 1 or groups[-1] > 0, "not the shortest form")

    def test_signed_form(self):
        for number in SIGNED:
            data = write_signed(number)
            with self.subTest(number):
                self.assertIsInstance(data, list)
                groups = groups_of(data)
                last = groups[-1] - 128 if groups[-1] >= 64 else groups[-1]
                self.assertEqual(summed(groups[:-1]) + last * 128 ** (len(groups) - 1), number)
                if len(groups) > 1:
                    shorter = groups[-2] - 128 if groups[-2] >= 64 else groups[-2]
                    self.assertNotEqual(summed(groups[:-2]) + shorter * 128 ** (len(groups) - 2), number)

    def test_lists_are_new(self):
        write_unsigned(5).append(9)
        write_signed(5).append(9)
        self.assertEqual((write_unsigned(5), write_signed(5)), ([5], [5]))


class Reading(unittest.TestCase):
    def read_back(self, read, write, number):
        data = write(number)
        size = len(data)
        self.assertEqual(read(data, 0, size, 64), (number, size))
        around = [255, 128, 3] + data + [127, 200]
        before = list(around)
        for end in (3 + size, 4 + size, 5 + size):
            self.assertEqual(read(around, 3, end, 64), (number, 3 + size))
        self.assertEqual(around, before)
        self.assertIsInstance(read(data, 0, size, 64), tuple)

    def test_unsigned_read_back(self):
        for number in UNSIGNED:
            with self.subTest(number):
                self.read_back(read_unsigned, write_unsigned, number)

    def test_signed_read_back(self):
        for number in SIGNED:
            with self.subTest(number):
                self.read_back(read_signed, write_signed, number)

    def test_longer_forms_of_unsigned(self):
        for number in UNSIGNED:
            data = write_unsigned(number)
            while len(data) < 9:
                data = data[:-1] + [data[-1] + 128, 0]
                self.assertEqual(read_unsigned(data, 0, len(data), 64), (number, len(data)))

    def test_longer_forms_of_signed(self):
        for number in SIGNED:
            data = write_signed(number)
            while len(data) < 9:
                data = data[:-1] + [data[-1] + 128, 127 if data[-1] >= 64 else 0]
                self.assertEqual(read_signed(data, 0, len(data), 64), (number, len(data)))

    def test_longest_form_in_32_bits(self):
        self.assertEqual(read_unsigned([128, 128, 128, 128, 0], 0, 5, 32), (0, 5))
        decode_fault(self, "number too long", 4, read_unsigned, [128, 128, 128, 128, 128, 0], 0, 6, 32)
        self.assertEqual(read_signed([255, 255, 255, 255, 127], 0, 5, 32), (-1, 5))
        decode_fault(self, "number too long", 4, read_signed, [255, 255, 255, 255, 255, 127], 0, 6, 32)


class Widths(unittest.TestCase):
    def place_of_fault(self, bits):
        """Where a number with one bit too many breaks off, and why."""
        if bits % 7 == 0:
            return "number too long", bits // 7 - 1
        return "number too large", bits // 7

    def test_unsigned(self):
        for bits in range(1, 65):
            with self.subTest(bits):
                data = write_unsigned(2 ** bits - 1)
                self.assertEqual(read_unsigned(data, 0, len(data), bits), (2 ** bits - 1, len(data)))
                data = [9] + write_unsigned(2 ** bits) + [9]
                reason, place = self.place_of_fault(bits)
                decode_fault(self, reason, place + 1, read_unsigned, data, 1, len(data), bits)

    def test_signed(self):
        for bits in range(1, 65):
            least, most = -2 ** (bits - 1), 2 ** (bits - 1) - 1
            reason, place = self.place_of_fault(bits)
            for number in (least, most, 0, -1):
                with self.subTest(bits=bits, number=number):
                    data = write_signed(number)
                    self.assertEqual(read_signed(data, 0, len(data), bits), (number, len(data)))
            for number in (least - 1, most + 1):
                with self.subTest(bits=bits, number=number):
                    data = [9] + write_signed(number) + [9]
                    decode_fault(self, reason, place + 1, read_signed, data, 1, len(data), bits)

    def test_every_last_byte(self):
        for bits in range(1, 65):
            front = [128] * ((bits - 1) // 7)
            left = bits - 7 * len(front)
            for last in range(128):
                data = front + [last]
                place = len(front)
                if last < 2 ** left:
                    self.assertEqual(read_unsigned(data, 0, place + 1, bits), (last << (bits - left), place + 1))
                else:
                    decode_fault(self, "number too large", place, read_unsigned, data, 0, place + 1, bits)
                group = last - 128 if last >= 64 else last
                if -2 ** (left - 1) <= group < 2 ** (left - 1):
                    self.assertEqual(read_signed(data, 0, place + 1, bits), (group << (bits - left), place + 1))
                else:
                    decode_fault(self, "number too large", place, read_signed, data, 0, place + 1, bits)

    def test_too_long_comes_before_the_end(self):
        for read in (read_unsigned, read_signed):
            for bits in range(1, 65):
                place = (bits - 1) // 7
                data = [128] * (place + 1)
                decode_fault(self, "number too long", place, read, data, 0, place + 1, bits)
                decode_fault(self, "number too long", place, read, data + [255, 0], 0, place + 3, bits)


class Ends(unittest.TestCase):
    def test_nothing_to_read(self):
        for read in (read_unsigned, read_signed):
            decode_fault(self, "unexpected end", 0, read, [], 0, 0, 32)
            decode_fault(self, "unexpected end", 2, read, [1, 2], 2, 2, 32)

    def test_end_before_the_end_of_the_list(self):
        for read in (read_unsigned, read_signed):
            decode_fault(self, "unexpected end", 0, read, [5], 0, 0, 32)
            decode_fault(self, "unexpected end", 1, read, [128, 1], 0, 1, 32)
            decode_fault(self, "unexpected end", 4, read, [1, 128, 128, 128, 1, 1], 1, 4, 32)

    def test_list_ends_inside(self):
        for read in (read_unsigned, read_signed):
            for size in range(1, 9):
                decode_fault(self, "unexpected end", size, read, [200] * size, 0, size, 64)

    def test_list_stays_after_a_fault(self):
        for read in (read_unsigned, read_signed):
            data = [255, 255, 255, 255, 99, 1]
            decode_fault(self, "number too large", 4, read, data, 0, 6, 32)
            self.assertEqual(data, [255, 255, 255, 255, 99, 1])


if __name__ == "__main__":
    unittest.main()

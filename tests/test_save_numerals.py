import unittest

from wasmhost.errors import DamagedSave
from wasmhost.save.numerals import mix, pack, unpack

HEAD = (87, 65, 83, 1)

MODULUS = 2147483647


def with_check(data):
    """The bytes and right check bytes behind them, counted anew."""
    check = 0
    for byte in data:
        check = (check * 257 + byte + 1) % MODULUS
    return data + [check % 256, check // 256 % 256, check // 65536 % 256, check // 16777216]


def sample_numbers():
    numbers = [0, 1, 2, 300]
    for power in range(1, 12):
        numbers += [128 ** power - 1, 128 ** power, 128 ** power + 1, 127 * 128 ** power]
    return numbers


class Mix(unittest.TestCase):
    def test_no_bytes(self):
        for modulus in (2, 7, MODULUS, 2305843009213693951):
            self.assertEqual(mix([], modulus), 0)
            self.assertEqual(mix((), modulus), 0)

    def test_written_out(self):
        self.assertEqual(mix([0], 1000), 1)
        self.assertEqual(mix([0, 0], 1000), 258)
        self.assertEqual(mix([5, 7], 10 ** 9), 6 * 257 + 8)
        self.assertEqual(mix([5, 7, 255], 10 ** 9), (6 * 257 + 8) * 257 + 256)
        self.assertEqual(mix([255], 256), 0)
        self.assertEqual(mix([255, 255], 2), 0)

    def test_several_moduli(self):
        data = [(place * 97 + 13) % 256 for place in range(300)]
        for modulus in (2, 3, 256, 257, 1000003, MODULUS, 2305843009213693951):
            whole = 0
            for byte in data:
                whole = whole * 257 + byte + 1
            self.assertEqual(mix(data, modulus), whole % modulus)
            self.assertEqual(mix(tuple(data), modulus), whole % modulus)

    def test_each_length(self):
        for modulus in (2, 255, MODULUS, 2305843009213693951, 10 ** 30):
            whole, data = 0, []
            for place in range(140):
                self.assertEqual(mix(data, modulus), whole % modulus)
                self.assertEqual(mix(tuple(data), modulus), whole % modulus)
                data.append((place * 89 + 255) % 256)
                whole = whole * 257 + data[-1] + 1

    def test_the_argument_stays(self):
        data = [1, 2, 3] * 20
        before = list(data)
        mix(data, 5)
        self.assertEqual(data, before)
        data = [1, 2, 3]
        mix(data, 5)
        self.assertEqual(data, [1, 2, 3])


class Pack(unittest.TestCase):
    def test_no_number(self):
        self.assertEqual(pack(HEAD, []), with_check([87, 65, 83, 1]))

    def test_the_save_of_an_empty_engine(self):
        self.assertEqual(pack(HEAD, [0, 0, 0, 0, 0, 0, 0, 1, 0, 0, 0, 0, 0]), [
            87, 65, 83, 1, 0, 0, 0, 0, 0, 0, 0, 1, 0, 0, 0, 0, 0, 139, 36, 28, 24])

    def test_groups(self):
        for number, groups in ((0, [0]), (1, [1]), (127, [127]), (128, [128, 1]), (129, [129, 1]), (300, [172, 2]),
                               (16383, [255, 127]), (16384, [128, 128, 1]), (2 ** 64, [128] * 9 + [2]),
                               (2 ** 70 - 1, [255] * 9 + [127]), (2 ** 70, [128] * 10 + [1])):
            self.assertEqual(pack(HEAD, [number]), with_check(list(HEAD) + groups))
            self.assertEqual(pack((0, 1, 2, 3), [7, number, 9]), with_check([0, 1, 2, 3, 7] + groups + [9]))

    def test_the_arguments_stay_and_the_list_is_new(self):
        numbers = [1, 2, 300]
        data = pack(HEAD, numbers)
        data.append(1)
        self.assertEqual((numbers, pack(HEAD, numbers)), ([1, 2, 300], data[:-1]))


class Unpack(unittest.TestCase):
    def damaged(self, place, data, head=HEAD):
        with self.assertRaises(DamagedSave) as caught:
            unpack(head, data)
        self.assertEqual(caught.exception.place, place, data)

    def test_what_was_packed(self):
        for numbers in ([], [0], [0] * 5, [1, 0], sample_numbers(), [128 ** 300], [10 ** 800 + 1, 0, 2 ** 1000 - 1]):
            self.assertEqual(unpack(HEAD, pack(HEAD, numbers)), numbers)
            self.assertEqual(unpack((1, 2, 3, 255), pack((1, 2, 3, 255), numbers)), numbers)
        for number in sample_numbers():
            self.assertEqual(unpack(HEAD, pack(HEAD, [number])), [number])

    def test_very_large_numbers(self):
        number = 3 ** 20000
        self.assertEqual(unpack(HEAD, pack(HEAD, [number, 5])), [number, 5])

    def test_each_byte_changed(self):
        data = pack(HEAD, [0, 5, 300, 128 ** 4])
        for place in range(len(data)):
            for byte in (0, 1, 127, 128, 255, data[place] ^ 1, data[place] ^ 128):
                if byte != data[place]:
                    changed = data[:place] + [byte] + data[place + 1:]
                    self.damaged("head" if place < 4 else "check", changed)

    def test_head(self):
        for data in ([], [87], [87, 65, 83], [87, 65, 83, 1], [87, 65, 83, 1, 0, 0, 0], [0] * 8, [0] * 100,
                     with_check([87, 65, 83]), with_check([87, 65, 83, 2, 0]), with_check([87, 65, 82, 1, 0])):
            self.damaged("head", data)
        self.damaged("head", pack(HEAD, [1, 2]), (87, 65, 82, 1))
        self.damaged("head", pack((87, 65, 82, 1), [1, 2]))
        for place in range(4):
            head = HEAD[:place] + (9,) + HEAD[place + 1:]
            self.damaged("head", pack(HEAD, [1]), head)

    def test_shortened_and_lengthened(self):
        data = pack(HEAD, [1, 2, 3])
        for count in range(8):
            self.damaged("head", data[:count])
        for count in range(8, len(data)):
            self.damaged("check", data[:count])
        self.damaged("check", data + [0])
        self.damaged("check", [87, 65, 83, 1, 0, 0, 0, 0])

    def test_longer_forms(self):
        for groups in ([128, 0], [129, 0], [255, 128, 0], [1, 128, 0, 2], [128, 128, 1, 200, 0], [128, 0, 128]):
            self.damaged("numbers", with_check(list(HEAD) + groups))

    def test_missing_last_group(self):
        for groups in ([128], [129], [1, 2, 255], [128, 1, 128, 128]):
            self.damaged("numbers", with_check(list(HEAD) + groups))

    def test_the_check_comes_before_the_numbers(self):
        self.damaged("check", list(HEAD) + [128, 0] + [0, 0, 0, 0])
        self.damaged("head", [1, 2, 3, 4, 128, 0, 0, 0, 0, 0])

    def test_the_arguments_stay_and_the_list_is_new(self):
        data = pack(HEAD, [1, 2, 300])
        before = list(data)
        unpack(HEAD, data).append(1)
        self.assertEqual((data, unpack(HEAD, data)), (before, [1, 2, 300]))


if __name__ == "__main__":
    unittest.main()

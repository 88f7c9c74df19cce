"""Checks of the numbers of saves, put together from what is kept of numbers that stay the same."""

from wasmhost.save.numerals import CHECK_BYTES, CHECK_MODULUS, mix, mix_behind, number_bytes
from wasmhost.save.writer import SAVE_HEAD
from wasmhost.words import word_bytes

DIGEST_MODULUS = 2305843009213693951

# The product of the two moduli: a check with it tells the check and the digest of a save at once.
MODULUS = 4951760154835678088235319297

# A piece is the check of bytes, and the weight that the check of what stands in front of them gets by them.
NO_PIECE = (0, 1)

# Rows that are kept together. Of a longer list, only those are written anew between which something has changed.
RUN_LENGTH = 64


def piece_of(numbers):
    """Returns the piece of the bytes of numbers."""
    data = number_bytes(numbers)
    # The last number is MODULUS, which has to be written out here.
    return mix(data, MODULUS), pow(257, len(data), 4951760154835678088235319297)


def joined(first, second):
    """Returns the piece of the bytes of one piece with those of another one behind them."""
    check, weight = second
    return (first[0] * weight + check) % MODULUS, first[1] * weight % MODULUS


def written_piece(rows, write_row):
    """Returns the piece of the numbers of rows that are written by the given function."""
    numbers = []
    for row in rows:
        numbers.extend(write_row(row))
    return piece_of(numbers)


class Tally:
    """The check of the numbers of a save, which are put one behind another.

    `kept` is a dict from keys to pairs of rows, as they were when they were put last, and the piece of their numbers.
    """

    def __init__(self, kept):
        self.kept = kept
        self.check = mix(SAVE_HEAD, MODULUS)
        self.waiting = []

    def put(self, numbers):
        """Puts numbers."""
        self.waiting.extend(numbers)

    def settle(self):
        """Adds the numbers that wait to the check."""
        self.check = mix_behind(self.check, number_bytes(self.waiting), MODULUS)
        self.waiting = []

    def put_piece(self, piece):
        """Puts the numbers of a piece."""
        if len(self.waiting) > 0:
            self.settle()
        check, weight = piece
        self.check = (self.check * weight + check) % MODULUS

    def put_kept(self, key, rows, write_row):
        """Puts the numbers of rows, which are written anew only if they are not those that are kept under the key."""
        found = self.kept.get(key)
        if found is None or found[0] != rows:
            found = (rows, written_piece(rows, write_row))
            self.kept[key] = found
        self.put_piece(found[1])

    def put_rows(self, key, rows, write_row):
        """Puts a list of rows."""
        self.waiting.append(len(rows))
        for at in range(0, len(rows), RUN_LENGTH):
            self.put_kept((key, at), tuple(rows[at:at + RUN_LENGTH]), write_row)

    def digest(self):
        """Returns the digest of the save that has these numbers and no others."""
        self.settle()
        return mix_behind(self.check, word_bytes(self.check % CHECK_MODULUS, CHECK_BYTES), DIGEST_MODULUS)

"""What digests know of the bytes of a memory."""

from wasmhost.save.tally import NO_PIECE, joined, written_piece
from wasmhost.save.writing import write_pair

# The places of a part of a memory, which is written anew as a whole if one of its bytes has changed.
PART_LENGTH = 64


def changed_parts(former, cells):
    """Returns the list of the numbers of the parts in which the bytes are not the former ones."""
    parts = {place // PART_LENGTH: True for place, byte in cells.items() if former.get(place) != byte}
    for place in former:
        if place not in cells:
            parts[place // PART_LENGTH] = True
    return list(parts)


def part_piece(cells, number):
    """Returns the piece of the bytes of a part."""
    first = number * PART_LENGTH
    places = [place for place in range(first, first + PART_LENGTH) if place in cells]
    return written_piece([(place, cells[place]) for place in places], write_pair)


class KnownCells:
    """The bytes of a memory as a digest found them last, in `cells`, the pieces of the parts, and that of the whole."""

    def __init__(self):
        self.cells = {}
        self.pieces = {}
        self.whole = NO_PIECE

    def piece_of_cells(self, cells):
        """Returns the piece of the bytes of the memory, which may have changed."""
        if cells != self.cells:
            for number in changed_parts(self.cells, cells):
                self.pieces[number] = part_piece(cells, number)
            self.cells = dict(cells)
            self.whole = NO_PIECE
            for number in sorted(self.pieces):
                self.whole = joined(self.whole, self.pieces[number])
        return self.whole

"""Records: what was done to a machine, and the digests of the machine behind each deed."""

from wasmhost.deeds import can_do
from wasmhost.errors import BadClaim, DamagedRecord, DamagedSave
from wasmhost.save.digests import digest_of
from wasmhost.save.loader import load_save
from wasmhost.save.numerals import pack, unpack
from wasmhost.save.reading import READERS, Source, read_bytes, read_choice, read_list
from wasmhost.save.writing import WRITERS, write_list, write_numbers

RECORD_HEAD = (87, 65, 82, 1)

DEEDS = ("host", "instance", "call", "run", "answer", "throw", "trap", "write", "variable", "table", "local")

# The sorts of the parts of each deed, for which WRITERS and READERS have functions.
PARTS = {
    "host": ("kinds", "kinds"),
    "instance": ("bytes", "numbers"),
    "call": ("number", "values"),
    "run": ("number",),
    "answer": ("values",),
    "throw": ("number", "values"),
    "trap": ("reason",),
    "write": ("number", "number", "bytes"),
    "variable": ("number", "value"),
    "table": ("number", "number", "entry"),
    "local": ("number", "number", "value"),
}

def write_row(row):
    """Returns the numbers of a deed and its digest."""
    deed, digest = row
    numbers = [DEEDS.index(deed[0])]
    for sort, value in zip(PARTS[deed[0]], deed[1:]):
        write_part = WRITERS[sort]
        numbers.extend(write_part(value))
    return numbers + [digest]


def write_record(start, rows):
    """Returns the bytes of a record."""
    return pack(RECORD_HEAD, write_numbers(start) + write_list(rows, write_row))


def read_row(source):
    """Returns a deed and its digest."""
    name = read_choice(source, DEEDS)
    deed = (name,)
    for sort in PARTS[name]:
        read_part = READERS[sort]
        deed = deed + (read_part(source),)
    return deed, source.take()


def read_checked(data):
    """Returns the save of a record, what it describes, and the rows."""
    try:
        source = Source(unpack(RECORD_HEAD, data))
        start = list(read_bytes(source))
        rows = list(read_list(source, read_row))
        source.check_end()
        return start, load_save(start), rows
    except DamagedSave:
        raise DamagedRecord(None)


def read_record(data):
    """Returns the save and the rows of a record."""
    start, _, rows = read_checked(data)
    return start, rows


def replayed(data):
    """Returns the machine behind the deeds of a record, and the number of its rows."""
    _, loaded, rows = read_checked(data)
    for number, (deed, _) in enumerate(rows):
        if not can_do(loaded.machine, deed):
            raise DamagedRecord(number)
    return loaded.machine, len(rows)


def audit(data):
    """Returns the number of the first row whose deed or digest is wrong, or None."""
    _, loaded, rows = read_checked(data)
    kept = {}
    for number, (deed, digest) in enumerate(rows):
        if not can_do(loaded.machine, deed) or digest_of(loaded.machine, kept) != digest:
            return number
    return None


def part(first, second):
    """Returns the number of the first row at which two records part, or None."""
    start, rows = read_record(first)
    other_start, other_rows = read_record(second)
    if start != other_start:
        raise BadClaim()
    for number, (row, other) in enumerate(zip(rows, other_rows)):
        if row != other:
            return number
    if len(rows) != len(other_rows):
        return min(len(rows), len(other_rows))
    return None

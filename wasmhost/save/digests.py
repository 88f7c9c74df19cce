"""Digests of machines.

Between two digests of a machine, most of it stays the same. What a digest finds out of the parts of the machine is kept
in a dict for the next one, together with the values of the part. A part is written anew only if these differ.
"""

from wasmhost.save.cells import KnownCells
from wasmhost.save.tally import NO_PIECE, Tally, joined, piece_of
from wasmhost.save.writer import frame_row, table_rows, variable_rows, write_frame, write_function, write_instance
from wasmhost.save.writer import write_status, write_table, write_variable
from wasmhost.save.writing import write_signature, write_value, write_values

# A list of fewer values is written anew sooner than found again.
FEW_VALUES = 16


def put_instances(tally, instances):
    """Puts the list of instances."""
    tally.put([len(instances)])
    for number, instance in enumerate(instances):
        tally.put_kept(("instance", number), (instance,), write_instance)


def known_cells(kept, number):
    """Returns what is known of the bytes of the memory with this number."""
    key = ("memory", number)
    if key not in kept:
        kept[key] = KnownCells()
    return kept[key]


def put_memories(tally, memories):
    """Puts the list of memories."""
    tally.put([len(memories)])
    for number, memory in enumerate(memories):
        tally.put([memory.pages, memory.most, len(memory.cells)])
        tally.put_piece(known_cells(tally.kept, number).piece_of_cells(memory.cells))


def outer_piece(kept, frames):
    """Returns the piece of all calls but the innermost one. They wait and therefore change less often."""
    piece = NO_PIECE
    for number, frame in enumerate(frames[:-1]):
        row = frame_row(frame)
        found = kept.get(("call", number))
        # The piece of the calls outside of this one belongs to what is found out of it.
        if found is None or found[0] != (row, piece):
            found = ((row, piece), joined(piece_of(write_frame(row)), piece))
            kept[("call", number)] = found
        piece = found[1]
    return piece


def put_values(tally, key, values):
    """Puts a list of values of the innermost call."""
    if len(values) < FEW_VALUES:
        tally.put(write_values(values))
    else:
        tally.put_rows(key, values, write_value)


def put_frames(tally, frames):
    """Puts the list of calls, the innermost one first."""
    tally.put([len(frames)])
    for frame in frames[-1:]:
        tally.put([frame.func, frame.place])
        put_values(tally, "slots", frame.slots)
        put_values(tally, "stack", frame.stack)
    tally.put_piece(outer_piece(tally.kept, frames))


def digest_of(machine, kept):
    """Returns the digest of a machine. `kept` is a dict for what digests keep, which is empty at first."""
    store = machine.store
    tally = Tally(kept)
    put_instances(tally, store.instances)
    tally.put_rows("functions", store.functions, write_function)
    tally.put_rows("tables", table_rows(store), write_table)
    put_memories(tally, store.memories)
    tally.put_rows("variables", variable_rows(store), write_variable)
    tally.put_rows("tags", store.tags, write_signature)
    put_frames(tally, machine.frames)
    # The last three are the lists of names, of breakpoints and of functions that run fast, which do not count.
    tally.put(write_status(machine.status) + [machine.spent, 0, 0, 0])
    return tally.digest()

"""Steps up to a breakpoint or up to the end of calls."""

from wasmhost.machine.outside import at_place
from wasmhost.machine.step import step


def is_stopped(machine, points, depth):
    """Returns True if the machine is at a breakpoint or has no more than so many calls, otherwise False."""
    return at_place(machine) in points or len(machine.frames) <= depth


def run_to_depth(machine, steps, points, depth):
    """Takes steps until the machine is stopped, but one at least. Returns how many were taken."""
    taken = 0
    while taken < steps and not (taken > 0 and is_stopped(machine, points, depth)) and step(machine):
        taken = taken + 1
    return taken


def listed_frames(machine):
    """Returns the list of the calls in progress, the innermost first."""
    rows = []
    for frame in machine.frames[::-1]:
        rows.append((frame.func, frame.instance, frame.place, tuple(frame.slots), tuple(frame.stack)))
    return rows

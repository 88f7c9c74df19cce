"""Running functions by blocks."""

from wasmhost.check.code import stacks
from wasmhost.fast.lower import blocks, count_slots
from wasmhost.fast.passes import improve
from wasmhost.fast.registers import Registers, do_ending, do_lines
from wasmhost.machine.outside import at_place
from wasmhost.machine.state import RUNNING
from wasmhost.machine.step import step


def heights_of(module, func):
    """Returns the tuple of the heights of all places of a function."""
    return tuple([len(kinds) for kinds, _ in stacks(module, func)])


def fast_entry(module, func):
    """Returns the pair of a dict from places to improved blocks, and the heights of all places of a function."""
    heights = heights_of(module, func)
    slots = count_slots(module, func)
    return {block[0]: improve(block, heights, slots) for block in blocks(module, func)}, heights


def do_block(machine, block, heights):
    """Does a block for the innermost frame and returns True, or changes nothing and returns False."""
    _, _, cost, lines, ending = block
    frame = machine.frames[-1]
    registers = Registers(machine, frame)
    if not do_lines(registers, lines):
        return False
    place = do_ending(registers, ending)
    slots = len(frame.slots)
    frame.slots = registers.values_between(0, slots)
    frame.stack = registers.values_between(slots, slots + heights[place])
    frame.place = place
    machine.spent = machine.spent + cost
    return True


def is_stopped(block, func, marks):
    """Returns True if a place behind the first row of the block is a breakpoint of the function, otherwise False."""
    place, _, cost, _, ending = block
    last = place + cost - 1
    if ending[0] == "leave":
        last = ending[1]
    return any([(func, at) in marks for at in range(place + 1, last + 1)])


def fast_steps(machine, left, fast, marks):
    """Does the block for the next steps, if it may and can be done. Returns how many steps were done."""
    func, place = at_place(machine)
    if func not in fast:
        return 0
    improved, heights = fast[func]
    block = improved.get(place)
    if block is None or not 1 <= block[2] <= left or is_stopped(block, func, marks):
        return 0
    if do_block(machine, block, heights):
        return block[2]
    return 0


def advance(machine, left, fast, marks):
    """Does a block or one step. Returns how many steps were done."""
    done = fast_steps(machine, left, fast, marks)
    if done == 0:
        done = int(step(machine))
    return done


def run_fast(machine, steps, fast, stops):
    """Does so many steps, or fewer if the machine stops running or comes to a breakpoint. Returns how many were done.

    `fast` is a dict from numbers of functions to what `fast_entry` returns, and `stops` is a list of breakpoints.
    """
    marks = {stop: True for stop in stops}
    done = 0
    while done < steps and machine.status == RUNNING:
        if done > 0 and at_place(machine) in marks:
            break
        done = done + advance(machine, steps - done, fast, marks)
    return done

"""Calls, returns, branches and exceptions."""

from wasmhost.errors import Trap
from wasmhost.machine.scope import code_of, instance_of
from wasmhost.machine.state import MOST_FRAMES, RUNNING, Frame
from wasmhost.reasons import STACK_EXHAUSTED


def take(stack, count):
    """Takes so many values from the top of a stack and returns the list of them."""
    split = len(stack) - count
    values = stack[split:]
    del stack[split:]
    return values


def check_room(machine, func):
    """Checks that there is room for a call of this function."""
    if machine.store.functions[func][0] == "code" and len(machine.frames) >= MOST_FRAMES:
        raise Trap(STACK_EXHAUSTED)


def enter(machine, func, arguments):
    """Begins a call of a function of the store inside of the frames that there are."""
    row = machine.store.functions[func]
    if row[0] == "host":
        machine.status = ("asks", row[1], tuple(arguments))
    else:
        _, instance, number, _ = row
        _, kinds, _ = machine.store.instances[instance].module.functions[number]
        machine.frames.append(Frame(func, instance, 0, list(arguments) + [0] * len(kinds), []))
        machine.status = RUNNING


def give_results(machine, values):
    """Gives the results of a call to the innermost frame, or finishes with them if there is none."""
    if len(machine.frames) == 0:
        machine.status = ("finished", tuple(values))
    else:
        machine.frames[-1].stack.extend(values)
        machine.status = RUNNING


def leave(machine):
    """Returns from the innermost call."""
    frame = machine.frames.pop()
    _, results = machine.store.functions[frame.func][-1]
    give_results(machine, take(frame.stack, len(results)))


def branch(machine, way):
    """Branches by an exit in the innermost frame."""
    place, count, height = way
    if place == -1:
        leave(machine)
    else:
        frame = machine.frames[-1]
        frame.stack[height:] = frame.stack[len(frame.stack) - count:]
        frame.place = place


def fitting_catcher(machine, frame, tag):
    """Returns the first catcher of a frame that fits a tag of the store, or None.

    The frame stands behind the row whose catchers count.
    """
    tags = instance_of(machine, frame).tags
    for catcher in code_of(machine, frame)[frame.place - 1][2]:
        if catcher[0] is None or tags[catcher[0]] == tag:
            return catcher
    return None


def catch_values(machine, catcher, values):
    """Goes on behind a catcher of the innermost frame."""
    if catcher[0] is not None:
        machine.frames[-1].stack.extend(values)
    machine.status = RUNNING
    branch(machine, catcher[1:])


def throw_values(machine, tag, values):
    """Takes an exception to the first catcher that fits, or ends the run with it."""
    while len(machine.frames) > 0:
        catcher = fitting_catcher(machine, machine.frames[-1], tag)
        if catcher is not None:
            catch_values(machine, catcher, values)
            return
        machine.frames.pop()
    machine.status = ("thrown", tag, tuple(values))

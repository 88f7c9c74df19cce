"""Calls from outside, and answers to a machine that asks."""

from wasmhost.machine.calls import enter, give_results, throw_values


def begin(machine, func, arguments):
    """Begins a run with a call of a function of the store."""
    machine.frames = []
    enter(machine, func, arguments)


def answer(machine, results):
    """Answers with values."""
    give_results(machine, results)


def answer_throw(machine, tag, results):
    """Answers with an exception."""
    throw_values(machine, tag, results)


def answer_trap(machine, reason):
    """Answers with a trap."""
    machine.status = ("trapped", reason)


def at_place(machine):
    """Returns the tuple (function, place) of the innermost frame, or None if there is no frame."""
    if len(machine.frames) == 0:
        return None
    frame = machine.frames[-1]
    return frame.func, frame.place

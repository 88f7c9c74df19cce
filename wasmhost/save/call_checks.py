"""The calls of a save."""

from wasmhost.check.code import stack_at
from wasmhost.items import code_at, host_functions, is_own, place_in_module, slot_kinds
from wasmhost.machine.state import MOST_FRAMES
from wasmhost.save.need import need
from wasmhost.store import values_fit


def kinds_at(store, frame):
    """Returns the kinds of the stack at the place of a call, which must not be dead."""
    module, index = place_in_module(store, frame.func)
    stack = stack_at(module, index, frame.place)
    need(stack is not None and not stack[1], "calls")
    return stack[0]


def call_in_front(store, frame):
    """Returns the call instruction one place in front of that of a call, or None."""
    if frame.place == 0:
        return None
    instruction = code_at(store, frame.func)[frame.place - 1][0]
    if instruction[0] in ("call", "call_indirect"):
        return instruction
    return None


def calls_function(store, frame, func):
    """Returns True if the instruction in front of the place of a call may have called this function."""
    instruction = call_in_front(store, frame)
    if instruction is None:
        return False
    instance = store.instances[frame.instance]
    if instruction[0] == "call":
        return instance.functions[instruction[1]] == func
    return instance.module.signatures[instruction[1]] == store.functions[func][-1]


def is_waiting(store, frame, func):
    """Returns True if a call may wait for the results of this function, otherwise False."""
    if not calls_function(store, frame, func):
        return False
    kinds = kinds_at(store, frame)
    _, results = store.functions[func][-1]
    return values_fit(kinds[:len(kinds) - len(results)], tuple(frame.stack))


def is_ready(store, frame):
    """Returns True if a call may go on by itself, otherwise False."""
    return values_fit(kinds_at(store, frame), tuple(frame.stack))


def check_frame(store, frame):
    """Checks the place and the locals of a call."""
    kinds_at(store, frame)
    need(values_fit(slot_kinds(store, frame.func), tuple(frame.slots)), "calls")


def check_innermost(machine, frame):
    """Checks what the innermost call waits for."""
    store = machine.store
    status = machine.status
    if status[0] == "running":
        need(is_ready(store, frame), "calls")
    elif status[0] == "asks":
        need(is_waiting(store, frame, host_functions(store)[status[1]]), "calls")
    else:
        waiting = [is_waiting(store, frame, func) for func in host_functions(store)]
        need(is_ready(store, frame) or True in waiting, "calls")


def check_calls(machine):
    """Checks the calls of a machine."""
    frames = machine.frames
    need(len(frames) <= MOST_FRAMES, "calls")
    for frame in frames:
        check_frame(machine.store, frame)
    for frame, inner in zip(frames, frames[1:]):
        need(is_waiting(machine.store, frame, inner.func), "calls")
    if len(frames) > 0:
        check_innermost(machine, frames[-1])


def check_functions(store, funcs):
    """Checks that calls of these functions are calls of functions of instances."""
    for func in funcs:
        need(is_own(store, func), "calls")

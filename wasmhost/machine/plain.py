"""The instructions behind which the next row follows."""

from wasmhost.errors import Trap
from wasmhost.instructions import ACCESS_BITS
from wasmhost.machine.memory import PAGE_ACTIONS, load, store
from wasmhost.machine.scope import variable_of
from wasmhost.numbers import calculate, signature_of
from wasmhost.reasons import UNREACHABLE


def skip(machine, frame, instruction):
    """An instruction that changes nothing."""


def unreachable(machine, frame, instruction):
    """unreachable"""
    raise Trap(UNREACHABLE)


def drop(machine, frame, instruction):
    """drop"""
    frame.stack.pop()


def select(machine, frame, instruction):
    """select"""
    lower, upper, condition = frame.stack[-3:]
    if condition == 0:
        lower = upper
    frame.stack[-3:] = [lower]


def constant(machine, frame, instruction):
    """A constant."""
    frame.stack.append(instruction[1])


def local_get(machine, frame, instruction):
    """local.get"""
    frame.stack.append(frame.slots[instruction[1]])


def local_set(machine, frame, instruction):
    """local.set"""
    frame.slots[instruction[1]] = frame.stack.pop()


def local_tee(machine, frame, instruction):
    """local.tee"""
    frame.slots[instruction[1]] = frame.stack[-1]


def global_get(machine, frame, instruction):
    """global.get"""
    frame.stack.append(variable_of(machine, frame, instruction[1]).value)


def global_set(machine, frame, instruction):
    """global.set"""
    variable = variable_of(machine, frame, instruction[1])
    variable.value = frame.stack.pop()


def compute(machine, frame, instruction):
    """A numeric instruction."""
    name = instruction[0]
    params, _ = signature_of(name)
    split = len(frame.stack) - len(params)
    # A trap leaves the operands on the stack.
    frame.stack[split:] = [calculate(name, tuple(frame.stack[split:]))]


ACTIONS = {
    "nop": skip,
    "block": skip,
    "loop": skip,
    "try_table": skip,
    "unreachable": unreachable,
    "drop": drop,
    "select": select,
    "i32.const": constant,
    "i64.const": constant,
    "local.get": local_get,
    "local.set": local_set,
    "local.tee": local_tee,
    "global.get": global_get,
    "global.set": global_set,
}


def action_of(name):
    """Returns the function that carries out the instruction of this name."""
    if name in ACTIONS:
        return ACTIONS[name]
    if name in PAGE_ACTIONS:
        return PAGE_ACTIONS[name]
    if name not in ACCESS_BITS:
        return compute
    if name[4:].startswith("load"):
        return load
    return store


def do_plain(machine, frame, instruction):
    """Carries out an instruction and goes on to the next row."""
    action = action_of(instruction[0])
    action(machine, frame, instruction)
    frame.place = frame.place + 1

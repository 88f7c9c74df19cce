"""The steps of a machine."""

from wasmhost.errors import Trap
from wasmhost.machine.calls import branch, check_room, enter, leave, take, throw_values
from wasmhost.machine.memory import LONG_ACTIONS
from wasmhost.machine.plain import do_plain
from wasmhost.machine.scope import code_of, instance_of
from wasmhost.machine.state import RUNNING
from wasmhost.reasons import CALL_MISMATCH, UNDEFINED_ELEMENT, UNINITIALIZED_ELEMENT
from wasmhost.words import unsigned


def do_if(machine, frame, row):
    """if"""
    place, other = row[1]
    if frame.stack.pop() == 0:
        place = other
    frame.place = place


def do_end(machine, frame, row):
    """The end of a body."""
    place = row[1][0]
    if place == -1:
        leave(machine)
    else:
        frame.place = place


def do_return(machine, frame, row):
    """return"""
    leave(machine)


def do_br(machine, frame, row):
    """br"""
    branch(machine, row[1][0])


def do_br_if(machine, frame, row):
    """br_if"""
    if frame.stack.pop() == 0:
        frame.place = frame.place + 1
    else:
        branch(machine, row[1][0])


def do_br_table(machine, frame, row):
    """br_table"""
    ways = row[1]
    at = unsigned("i32", frame.stack.pop())
    branch(machine, ways[min(at, len(ways) - 1)])


def call_function(machine, frame, func):
    """Calls a function of the store with the values on the top of the frame's stack."""
    params, _ = machine.store.functions[func][-1]
    arguments = take(frame.stack, len(params))
    frame.place = frame.place + 1
    enter(machine, func, arguments)


def do_call(machine, frame, row):
    """call"""
    func = instance_of(machine, frame).functions[row[0][1]]
    check_room(machine, func)
    call_function(machine, frame, func)


def indirect_function(machine, frame, instruction):
    """Returns the function of the store that call_indirect finds by the value on the top of the frame's stack."""
    _, signature, table = instruction
    instance = instance_of(machine, frame)
    entries = machine.store.tables[instance.tables[table]].entries
    at = unsigned("i32", frame.stack[-1])
    if at >= len(entries):
        raise Trap(UNDEFINED_ELEMENT)
    func = entries[at]
    if func is None:
        raise Trap(UNINITIALIZED_ELEMENT)
    if machine.store.functions[func][-1] != instance.module.signatures[signature]:
        raise Trap(CALL_MISMATCH)
    return func


def do_call_indirect(machine, frame, row):
    """call_indirect"""
    func = indirect_function(machine, frame, row[0])
    check_room(machine, func)
    frame.stack.pop()
    call_function(machine, frame, func)


def do_throw(machine, frame, row):
    """throw"""
    tag = instance_of(machine, frame).tags[row[0][1]]
    params, _ = machine.store.tags[tag]
    values = take(frame.stack, len(params))
    # The other frames stand behind the row whose catchers count, too.
    frame.place = frame.place + 1
    throw_values(machine, tag, values)


ACTIONS = {
    "if": do_if,
    "end": do_end,
    "return": do_return,
    "br": do_br,
    "br_if": do_br_if,
    "br_table": do_br_table,
    "call": do_call,
    "call_indirect": do_call_indirect,
    "throw": do_throw,
}


def carry_out(machine, frame, row):
    """Carries out a row for the innermost frame."""
    instruction = row[0]
    if instruction[0] in ACTIONS:
        action = ACTIONS[instruction[0]]
        action(machine, frame, row)
    elif instruction[0] in LONG_ACTIONS:
        action = LONG_ACTIONS[instruction[0]]
        action(machine, frame, row)
    else:
        do_plain(machine, frame, instruction)


def step(machine):
    """Does one step and returns True, or returns False if the machine is not running."""
    if machine.status != RUNNING:
        return False
    frame = machine.frames[-1]
    machine.spent = machine.spent + 1
    try:
        carry_out(machine, frame, code_of(machine, frame)[frame.place])
    except Trap as trap:
        machine.status = ("trapped", trap.reason)
    return True


def run(machine, steps):
    """Does so many steps, or fewer if the machine stops running. Returns how many were done."""
    done = 0
    while done < steps and step(machine):
        done = done + 1
    return done

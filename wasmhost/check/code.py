"""The stacks at the places of a function."""

from wasmhost.check.walker import Walker
from wasmhost.errors import NoSuchItem
from wasmhost.indexes import imported_items
from wasmhost.instructions import bodies_of


def count_places(body):
    """Returns the number of places of a function with this body."""
    count = 1
    for instruction in body:
        count = count + 1
        for inner in bodies_of(instruction):
            count = count + count_places(inner)
    return count


def own_function(module, func):
    """Returns the function with this index among all functions, which must not be imported."""
    at = func - len(imported_items(module, "func"))
    if at < 0 or at >= len(module.functions):
        raise NoSuchItem("func", func)
    return module.functions[at]


def walk_through(module, function):
    """Returns the walk through the code of a function. The index of its signature must name one."""
    index, own_kinds, body = function
    walker = Walker(module, module.signatures[index], own_kinds)
    walker.walk(body)
    return walker


def stacks(module, func):
    """Returns the list of the stacks at the places of a function, up to and including the first fault."""
    function = own_function(module, func)
    if function[0] >= len(module.signatures):
        return []
    return walk_through(module, function).seen


def stack_at(module, func, place):
    """Returns the stack at a place of a function, or None if the list of stacks does not have it."""
    rows = stacks(module, func)
    if place < 0 or place >= len(rows):
        return None
    return rows[place]

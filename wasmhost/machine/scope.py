"""What the code of a frame can reach."""

from wasmhost.items import code_at


def instance_of(machine, frame):
    """Returns the instance of a frame."""
    return machine.store.instances[frame.instance]


def code_of(machine, frame):
    """Returns the flat code of the function of a frame."""
    return code_at(machine.store, frame.func)


def variable_of(machine, frame, index):
    """Returns the global that a frame knows by this index."""
    return machine.store.variables[instance_of(machine, frame).variables[index]]


def memory_of(machine, frame):
    """Returns the memory of a frame."""
    return machine.store.memories[instance_of(machine, frame).memories[0]]

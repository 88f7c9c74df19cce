"""The state of a machine."""

MOST_FRAMES = 64

RUNNING = ("running",)


class Frame:
    """A call in progress.

    `func` and `instance` are numbers of the store, `place` is that of the next instruction, `slots` are the values of
    the local variables, and `stack` are the values on the stack, the top last.
    """

    def __init__(self, func, instance, place, slots, stack):
        self.func = func
        self.instance = instance
        self.place = place
        self.slots = slots
        self.stack = stack


class Machine:
    """A machine over a store. `frames` are the calls in progress, the innermost last."""

    def __init__(self, store):
        self.store = store
        self.frames = []
        self.status = ("finished", ())
        self.spent = 0

"""The stack of kinds with which code is checked."""

from wasmhost.check.scope import CodeFault


class Level:
    """A body that is being checked.

    The values below its `floor` cannot be used. `buried` is True if the block around it stands at a dead place.
    """

    def __init__(self, floor, buried):
        self.floor = floor
        self.buried = buried
        self.loose = False


def agree(found, wanted):
    """Returns True if the two kinds match; None matches every kind."""
    return found is None or wanted is None or found == wanted


class KindStack:
    """The kinds of the values on the stack of a call, and the bodies around the place, the innermost last."""

    def __init__(self):
        self.held = []
        self.levels = []

    def is_dead(self):
        """Returns True if the place is dead, otherwise False."""
        if len(self.levels) == 0:
            return False
        return self.levels[-1].loose or self.levels[-1].buried

    def shown(self):
        """Returns the tuple of the kinds and whether the place is dead."""
        return tuple(self.held), self.is_dead()

    def put(self, kinds):
        """Puts kinds on the top."""
        self.held.extend(kinds)

    def need(self, kinds):
        """Checks that these kinds are on the top, and leaves them there."""
        level = self.levels[-1]
        own = self.held[level.floor:]
        if len(own) < len(kinds) and not level.loose:
            raise CodeFault("kind mismatch")
        # The shorter one of the two ends the comparison: what a loose stack lacks is unknown and matches.
        for found, wanted in zip(own[::-1], kinds[::-1]):
            if not agree(found, wanted):
                raise CodeFault("kind mismatch")

    def take(self, kinds):
        """Takes kinds from the top."""
        self.need(kinds)
        count = min(len(kinds), len(self.held) - self.levels[-1].floor)
        del self.held[len(self.held) - count:]

    def take_any(self):
        """Takes one kind from the top and returns it, or None if it is unknown."""
        self.need((None,))
        if len(self.held) == self.levels[-1].floor:
            return None
        return self.held.pop()

    def loosen(self):
        """Makes the innermost body loose: all of its kinds are forgotten."""
        level = self.levels[-1]
        del self.held[level.floor:]
        level.loose = True

    def enter(self, params):
        """Begins a body with these kinds on the top of its own."""
        self.levels.append(Level(len(self.held), self.is_dead()))
        self.put(params)

    def leave(self, results):
        """Ends the innermost body, which must leave exactly these kinds, and takes them."""
        self.take(results)
        if len(self.held) > self.levels[-1].floor:
            raise CodeFault("kind mismatch")
        self.levels.pop()

"""The errors that the program raises."""


class HostError(ValueError):
    """The base class of all errors that the program raises."""


class Trap(HostError):
    """An instruction cannot be carried out."""

    def __init__(self, reason):
        self.reason = reason


class DecodeError(HostError):
    """The bytes of a file are not those of a module."""

    def __init__(self, reason, place):
        self.reason = reason
        self.place = place


class ParseError(HostError):
    """A text is not that of a module."""

    def __init__(self, reason, line, column):
        self.reason = reason
        self.line = line
        self.column = column


class UnknownInstruction(HostError):
    """No instruction has the name."""

    def __init__(self, name):
        self.name = name


class InvalidModule(HostError):
    """A module is not valid."""


class ImportMissing(HostError):
    """No name stands for an import."""

    def __init__(self, index):
        self.index = index


class ImportUnfit(HostError):
    """The item that is found for an import does not fit."""

    def __init__(self, index):
        self.index = index


class NoSuchItem(HostError):
    """A number names nothing."""

    def __init__(self, kind, index):
        self.kind = kind
        self.index = index


class Busy(HostError):
    """A run is in progress."""


class NotAsked(HostError):
    """The machine does not ask."""


class LimitReached(HostError):
    """Something is larger or more than is allowed."""

    def __init__(self, what):
        self.what = what


class OutOfRange(HostError):
    """An argument is outside of its range."""

    def __init__(self, what):
        self.what = what


class BadValues(HostError):
    """Values do not match what is asked for."""


class Immutable(HostError):
    """A global cannot be changed."""

    def __init__(self, index):
        self.index = index


class DamagedSave(HostError):
    """The bytes of a save are not those of an engine."""

    def __init__(self, place):
        self.place = place


class DamagedRecord(HostError):
    """The bytes of a record are no record, or a row cannot be performed."""

    def __init__(self, row):
        self.row = row


class BadClaim(HostError):
    """Claims do not belong together."""

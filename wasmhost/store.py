"""The store: what instances and the host own."""

from wasmhost.numbers import in_range

PAGE_BYTES = 65536


class Table:
    """A table, whose entries are None or numbers of functions."""

    def __init__(self, size, most):
        self.entries = [None] * size
        self.most = most


class Memory:
    """A memory. `cells` is a dict from the places of the bytes that are not 0 to these bytes."""

    def __init__(self, pages, most):
        self.pages = pages
        self.most = most
        self.cells = {}

    def size(self):
        """Returns the number of bytes."""
        return self.pages * PAGE_BYTES

    def read(self, at, count):
        """Returns the list of so many bytes from a place on."""
        return [self.cells.get(place, 0) for place in range(at, at + count)]

    def write(self, at, data):
        """Replaces the bytes from a place on."""
        for place, byte in enumerate(data, at):
            if byte == 0:
                self.cells.pop(place, None)
            else:
                self.cells[place] = byte


class Global:
    """A global variable."""

    def __init__(self, kind, mutable, value):
        self.kind = kind
        self.mutable = mutable
        self.value = value


class Instance:
    """A module with the numbers of its items in the store and the flat code of its functions."""

    def __init__(self, module, functions, tables, memories, variables, tags, codes):
        self.module = module
        self.functions = functions
        self.tables = tables
        self.memories = memories
        self.variables = variables
        self.tags = tags
        self.codes = codes


class Store:
    """The items of each kind, in the order in which they were added."""

    def __init__(self):
        self.functions = []
        self.tables = []
        self.memories = []
        self.variables = []
        self.tags = []
        self.instances = []


def value_fits(kind, value):
    """Returns True if the value lies in the range of the kind, otherwise False."""
    return in_range((kind,), (value,))


def values_fit(kinds, values):
    """Returns True if there is one value in range for each kind, otherwise False."""
    return in_range(kinds, values)

"""Modules: what a file or a text describes."""


class Module:
    """A module with its eleven parts. Each part is the argument of its name."""

    def __init__(self, *, signatures=(), imports=(), functions=(), tables=(), memories=(), tags=(), variables=(),
                 exports=(), start=None, table_segments=(), memory_segments=()):
        self.signatures = signatures
        self.imports = imports
        self.functions = functions
        self.tables = tables
        self.memories = memories
        self.tags = tags
        self.variables = variables
        self.exports = exports
        self.start = start
        self.table_segments = table_segments
        self.memory_segments = memory_segments


def parts_of(module):
    """Returns the tuple of the eleven parts of a module."""
    return (module.signatures, module.imports, module.functions, module.tables, module.memories, module.tags,
            module.variables, module.exports, module.start, module.table_segments, module.memory_segments)


def equal(first, second):
    """Returns True if all parts of the two modules are equal, otherwise False."""
    return parts_of(first) == parts_of(second)

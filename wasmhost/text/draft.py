"""Modules that are being read from texts."""

from wasmhost.modules import Module


class Draft:
    """What has been read of a module so far.

    `known` is a dict from each sort of thing to a dict from identifiers to indexes.
    """

    def __init__(self, known):
        self.known = known
        self.signatures = []
        self.imports = []
        self.functions = []
        self.tables = []
        self.memories = []
        self.tags = []
        self.variables = []
        self.exports = []
        self.start = None
        self.table_segments = []
        self.memory_segments = []

    def has_own_items(self):
        """Returns True if a function, table, memory, tag or global has been read that is not imported."""
        own = self.functions + self.tables + self.memories + self.tags + self.variables
        return len(own) > 0

    def index_of(self, signature):
        """Returns the index of the first signature that equals this one, which is added if there is none."""
        if signature not in self.signatures:
            self.signatures.append(signature)
        return self.signatures.index(signature)

    def finished(self):
        """Returns the module."""
        return Module(
            signatures=tuple(self.signatures),
            imports=tuple(self.imports),
            functions=tuple(self.functions),
            tables=tuple(self.tables),
            memories=tuple(self.memories),
            tags=tuple(self.tags),
            variables=tuple(self.variables),
            exports=tuple(self.exports),
            start=self.start,
            table_segments=tuple(self.table_segments),
            memory_segments=tuple(self.memory_segments),
        )

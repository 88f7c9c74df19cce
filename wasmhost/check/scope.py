"""What the code of a function can name."""

from wasmhost.errors import HostError
from wasmhost.indexes import function_signatures, global_heads, memory_limits, table_limits, tag_signatures
from wasmhost.instructions import shape_kinds


class CodeFault(HostError):
    """A place of code is not valid. The checker catches this error itself."""

    def __init__(self, reason):
        self.reason = reason


class Scope:
    """The things that the instructions of a function can name.

    `slots` are the kinds of its local variables, `results` the kinds of its results, and `labels` the tuples of the
    kinds that the labels take, the innermost one last.
    """

    def __init__(self, module, signature, own_kinds):
        params, results = signature
        self.slots = params + own_kinds
        self.results = results
        self.labels = []
        self.signatures = module.signatures
        self.function_indexes = function_signatures(module)
        self.tag_indexes = tag_signatures(module)
        self.heads = global_heads(module)
        self.table_count = len(table_limits(module))
        self.memory_count = len(memory_limits(module))

    def slot(self, index):
        """Returns the kind of a local variable."""
        if index >= len(self.slots):
            raise CodeFault("unknown local")
        return self.slots[index]

    def variable(self, index):
        """Returns the kind of a global and whether it is mutable."""
        if index >= len(self.heads):
            raise CodeFault("unknown global")
        return self.heads[index]

    def signature(self, index):
        """Returns a signature."""
        if index >= len(self.signatures):
            raise CodeFault("unknown signature")
        return self.signatures[index]

    def function(self, index):
        """Returns the signature of a function."""
        indexes = self.function_indexes
        if index >= len(indexes) or indexes[index] >= len(self.signatures):
            raise CodeFault("unknown function")
        return self.signatures[indexes[index]]

    def tag(self, index):
        """Returns the parameters of the signature of a tag."""
        indexes = self.tag_indexes
        if index >= len(indexes) or indexes[index] >= len(self.signatures):
            raise CodeFault("unknown tag")
        return self.signatures[indexes[index]][0]

    def label(self, index):
        """Returns the kinds that a label takes."""
        if index >= len(self.labels):
            raise CodeFault("unknown label")
        return self.labels[len(self.labels) - 1 - index]

    def shape(self, shape):
        """Returns the signature that a shape stands for."""
        if shape not in (None, "i32", "i64") and shape >= len(self.signatures):
            raise CodeFault("unknown signature")
        return shape_kinds(self.signatures, shape)

    def need_table(self, index):
        """Checks that there is such a table."""
        if index >= self.table_count:
            raise CodeFault("unknown table")

    def need_memory(self):
        """Checks that there is a memory."""
        if self.memory_count == 0:
            raise CodeFault("unknown memory")

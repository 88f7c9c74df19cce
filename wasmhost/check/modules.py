"""The checking of whole modules."""

from wasmhost.check.code import walk_through
from wasmhost.indexes import count_items, function_signatures, imported_items

MOST_PAGES = 65536

UNKNOWN = {
    "func": "unknown function",
    "table": "unknown table",
    "memory": "unknown memory",
    "global": "unknown global",
    "tag": "unknown tag",
}


def item_reason(module, sort, index):
    """Returns the reason why an index names no item of this sort, or None."""
    if index >= count_items(module, sort):
        return UNKNOWN[sort]
    return None


def signature_reason(module, index):
    """Returns the reason of the fault in an index of a signature, or None."""
    if index >= len(module.signatures):
        return "unknown signature"
    return None


def tag_reason(module, index):
    """Returns the reason of the fault in a tag, or None."""
    if index >= len(module.signatures):
        return "unknown signature"
    if len(module.signatures[index][1]) > 0:
        return "tag with results"
    return None


def table_reason(module, limit):
    """Returns the reason of the fault in the limit of a table, or None."""
    least, most = limit
    if most is not None and least > most:
        return "size out of range"
    return None


def memory_reason(module, limit):
    """Returns the reason of the fault in the limit of a memory, or None."""
    least, most = limit
    if least > MOST_PAGES or most is not None and most > MOST_PAGES:
        return "size out of range"
    return table_reason(module, limit)


def import_reason(module, row):
    """Returns the reason of the fault in an import, or None."""
    sort, what = row[2:]
    if sort == "func":
        return signature_reason(module, what)
    if sort == "tag":
        return tag_reason(module, what)
    if sort == "table":
        return table_reason(module, what)
    if sort == "memory":
        return memory_reason(module, what)
    return None


def function_reason(module, function):
    """Returns the reason of the fault in a function, or None. Its code is checked later."""
    return signature_reason(module, function[0])


def constant_reason(module, constant, kind):
    """Returns the reason of the fault in a constant that must have this kind, or None."""
    name, operand = constant
    found = name[:3]
    if name == "global.get":
        heads = imported_items(module, "global")
        if operand >= len(heads):
            return "unknown global"
        found, mutable = heads[operand]
        if mutable:
            return "constant expression required"
    if found != kind:
        return "kind mismatch"
    return None


def global_reason(module, variable):
    """Returns the reason of the fault in a global, or None."""
    kind, _, constant = variable
    return constant_reason(module, constant, kind)


def start_reason(module, func):
    """Returns the reason of the fault in the start function, or None."""
    reason = item_reason(module, "func", func)
    if reason is not None:
        return reason
    index = function_signatures(module)[func]
    if module.signatures[index] != ((), ()):
        return "start function"
    return None


def table_segment_reason(module, segment):
    """Returns the reason of the fault in a table segment, or None."""
    table, constant, functions = segment
    reason = item_reason(module, "table", table) or constant_reason(module, constant, "i32")
    if reason is not None:
        return reason
    if len(functions) > 0:
        return item_reason(module, "func", max(functions))
    return None


def memory_segment_reason(module, segment):
    """Returns the reason of the fault in a memory segment, or None."""
    memory, constant, _ = segment
    return item_reason(module, "memory", memory) or constant_reason(module, constant, "i32")


def first_fault(module, part, rows, reason_of):
    """Returns the first fault among the rows of a part, or None."""
    for index, row in enumerate(rows):
        reason = reason_of(module, row)
        if reason is not None:
            return part, index, reason, None, None
    return None


def memory_count_fault(module):
    """Returns the fault that there is more than one memory, or None."""
    if count_items(module, "memory") > 1:
        return "memory", 1, "multiple memories", None, None
    return None


def export_fault(module):
    """Returns the first fault in the exports, or None."""
    names = {}
    for at, (name, sort, index) in enumerate(module.exports):
        reason = item_reason(module, sort, index)
        if reason is None and name in names:
            reason = "duplicate export name"
        if reason is not None:
            return "export", at, reason, None, None
        names[name] = True
    return None


def start_fault(module):
    """Returns the fault in the start function, or None."""
    if module.start is None:
        return None
    return first_fault(module, "start", (module.start,), start_reason)


def code_fault(module):
    """Returns the first fault in the code of the functions, or None."""
    for index, function in enumerate(module.functions):
        walker = walk_through(module, function)
        if walker.reason is not None:
            return "code", index, walker.reason, len(walker.seen) - 1, walker.seen[-1]
    return None


def check(module):
    """Returns None if the module is valid, otherwise its first fault."""
    return (
        first_fault(module, "import", module.imports, import_reason)
        or first_fault(module, "function", module.functions, function_reason)
        or first_fault(module, "table", module.tables, table_reason)
        or first_fault(module, "memory", module.memories, memory_reason)
        or memory_count_fault(module)
        or first_fault(module, "tag", module.tags, tag_reason)
        or first_fault(module, "global", module.variables, global_reason)
        or export_fault(module)
        or start_fault(module)
        or first_fault(module, "table segment", module.table_segments, table_segment_reason)
        or first_fault(module, "memory segment", module.memory_segments, memory_segment_reason)
        or code_fault(module)
    )

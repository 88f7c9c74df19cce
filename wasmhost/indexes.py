"""The items of a module as its code numbers them: imported ones first."""

# A file writes a sort as its place among these.
SORTS = ("func", "table", "memory", "global", "tag")


def imported_items(module, kind):
    """Returns the list of what the imports of this kind ask for, in order."""
    return [row[3] for row in module.imports if row[2] == kind]


def function_signatures(module):
    """Returns the list of the indexes of the signatures of all functions."""
    return imported_items(module, "func") + [function[0] for function in module.functions]


def table_limits(module):
    """Returns the list of the limits of all tables."""
    return imported_items(module, "table") + list(module.tables)


def memory_limits(module):
    """Returns the list of the limits of all memories."""
    return imported_items(module, "memory") + list(module.memories)


def global_heads(module):
    """Returns the list of pairs of the kind of each global and whether it is mutable."""
    return imported_items(module, "global") + [variable[:2] for variable in module.variables]


def tag_signatures(module):
    """Returns the list of the indexes of the signatures of all tags."""
    return imported_items(module, "tag") + list(module.tags)


LISTS = {
    "func": function_signatures,
    "table": table_limits,
    "memory": memory_limits,
    "global": global_heads,
    "tag": tag_signatures,
}


def all_items(module, sort):
    """Returns the list of what the module says of all items of this sort. For each, an import says the same."""
    list_items = LISTS[sort]
    return list_items(module)


def count_items(module, sort):
    """Returns the number of all items of this sort."""
    return len(all_items(module, sort))

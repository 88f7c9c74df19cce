"""The items of a store, by their kinds and numbers."""

from wasmhost.errors import NoSuchItem


def items_of(owner, kind):
    """Returns the items of this kind that a store has, or their numbers if the owner is an instance."""
    if kind == "func":
        return owner.functions
    if kind == "table":
        return owner.tables
    if kind == "memory":
        return owner.memories
    if kind == "global":
        return owner.variables
    if kind == "tag":
        return owner.tags
    return owner.instances


def has_item(store, kind, index):
    """Returns True if the store has an item of this kind with this number, otherwise False."""
    return 0 <= index < len(items_of(store, kind))


def item_at(store, kind, index):
    """Returns the item of this kind with this number."""
    if not has_item(store, kind, index):
        raise NoSuchItem(kind, index)
    return items_of(store, kind)[index]


def host_functions(store):
    """Returns the list of the numbers of the host functions among the functions."""
    return [func for func, row in enumerate(store.functions) if row[0] == "host"]


def is_own(store, func):
    """Returns True if there is such a function and an instance defines it, otherwise False."""
    return has_item(store, "func", func) and store.functions[func][0] == "code"


def code_at(store, func):
    """Returns the flat code of a function, which is empty for a host function."""
    row = store.functions[func]
    if row[0] == "host":
        return ()
    _, instance, number, _ = row
    return store.instances[instance].codes[number]


def place_in_module(store, func):
    """Returns the module that defines a function, and the index of the function there."""
    _, instance, number, _ = store.functions[func]
    found = store.instances[instance]
    return found.module, len(found.functions) - len(found.codes) + number


def slot_kinds(store, func):
    """Returns the kinds of the local variables of a function of an instance."""
    _, instance, number, signature = store.functions[func]
    _, own_kinds, _ = store.instances[instance].module.functions[number]
    return signature[0] + own_kinds

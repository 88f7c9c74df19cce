"""The items of a store, by their kinds and numbers."""

from wasmhost.errors import NoSuchItem


def items_of(owner, kind):
    """Returns the items of this kind that a store has, or their numbers if the owner is an instance."""
    if kind == "func":
        return owner.functions
    if kind == "table":
        return owner.tables
    if kind == "memory":
        return owner.memories
    if kind == "global":
        return owner.variables
    if kind == "tag":
        return owner.tags
    return owner.instances


def has_item(store, kind, index):
    """Returns True if the store has an item of this kind with this number, otherwise False."""
    return 0 <= index < len(items_of(store, kind))


def item_at(store, kind, index):
    """Returns the item of this kind with this number."""
    if not has_item(store, kind, index):
        raise NoSuchItem(kind, index)
    return items_of(store, kind)[index]

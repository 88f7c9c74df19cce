"""Lists of names: what modules find when they import something."""

from wasmhost.errors import LimitReached
from wasmhost.limits import MOST_NAMES


def lookup(names, module, name):
    """Returns the tuple (kind, index) of the name with this pair, or None."""
    for row in names:
        if row[:2] == (module, name):
            return row[2:]
    return None


def with_names(names, rows):
    """Returns a new list of names, into which the rows have been put in order."""
    result = list(names)
    for row in rows:
        result = [name for name in result if name[:2] != row[:2]]
        result.append(row)
    return result


def put_names(names, rows):
    """Puts several names into the list."""
    result = with_names(names, rows)
    if len(result) > MOST_NAMES:
        raise LimitReached("names")
    names[:] = result


def put_name(names, module, name, kind, index):
    """Puts a name into the list."""
    put_names(names, [(module, name, kind, index)])


def publish_items(names, module, items):
    """Puts a name for each tuple (name, kind, index) of a list, in order."""
    put_names(names, [(module,) + item for item in items])

"""Which modules an engine takes."""

from wasmhost.binary.modules import decode, encode
from wasmhost.check.modules import check
from wasmhost.errors import InvalidModule, LimitReached
from wasmhost.limits import MOST_ENTRIES, MOST_KINDS, MOST_MEMORY_PAGES


def is_too_large(module):
    """Returns True if a table, a memory or a signature of the module is too large, otherwise False."""
    sizes = [least > MOST_ENTRIES for least, _ in module.tables]
    sizes.extend([least > MOST_MEMORY_PAGES for least, _ in module.memories])
    sizes.extend([max(len(params), len(results)) > MOST_KINDS for params, results in module.signatures])
    return True in sizes


def file_of(module):
    """Returns the file of a module, which must be valid and not too large."""
    if check(module) is not None:
        raise InvalidModule()
    file = encode(module)
    if is_too_large(module):
        raise LimitReached("size")
    return file


def module_of(file):
    """Returns the module of a file, which must be valid, not too large, and written as it is written here."""
    module = decode(list(file))
    if file_of(module) != list(file):
        raise InvalidModule()
    return module

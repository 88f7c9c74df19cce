"""Linking: what modules import, and instances of modules in a store."""

from wasmhost.errors import ImportMissing, ImportUnfit, LimitReached
from wasmhost.flat import flatten
from wasmhost.items import host_functions, items_of
from wasmhost.limits import MOST_ENTRIES, MOST_HOSTS, MOST_KINDS, MOST_MEMORY_PAGES
from wasmhost.names import lookup
from wasmhost.reasons import OUT_OF_BOUNDS, UNDEFINED_ELEMENT
from wasmhost.store import Global, Instance, Memory, Table
from wasmhost.words import unsigned


def check_signature(params, results):
    """Checks that a signature is not too long for a function of a store."""
    if max(len(params), len(results)) > MOST_KINDS:
        raise LimitReached("signature")


def add_host(store, params, results):
    """Adds a host function and returns its number among the functions."""
    check_signature(params, results)
    number = len(host_functions(store))
    if number >= MOST_HOSTS:
        raise LimitReached("host functions")
    store.functions.append(("host", number, (params, results)))
    return len(store.functions) - 1


def size_fits(size, most, limit):
    """Returns True if a size and a greatest size fit an import with this limit, otherwise False."""
    least, greatest = limit
    return size >= least and (greatest is None or most <= greatest)


def item_fits(store, module, row, number):
    """Returns True if the item with this number fits what an import of the module asks for, otherwise False."""
    kind, what = row[2:]
    item = items_of(store, kind)[number]
    if kind == "func":
        return item[-1] == module.signatures[what]
    if kind == "tag":
        return item == module.signatures[what]
    if kind == "global":
        return (item.kind, item.mutable) == what
    if kind == "table":
        return size_fits(len(item.entries), item.most, what)
    return size_fits(item.pages, item.most, what)


def resolve(store, names, module):
    """Returns the tuple of the numbers of the items that the imports of a module find."""
    found = [lookup(names, row[0], row[1]) for row in module.imports]
    if None in found:
        raise ImportMissing(found.index(None))
    numbers = []
    for index, row in enumerate(module.imports):
        kind, number = found[index]
        if kind != row[2] or not item_fits(store, module, row, number):
            raise ImportUnfit(index)
        numbers.append(number)
    return tuple(numbers)


def imported_numbers(module, found, kind):
    """Returns the tuple of those items of an import list that are of this kind."""
    return tuple([number for row, number in zip(module.imports, found) if row[2] == kind])


def put_all(items, added):
    """Puts items at the end of a list and returns the tuple of their numbers."""
    first = len(items)
    items.extend(added)
    return tuple(range(first, len(items)))


def greatest_size(most, bound):
    """Returns the greatest size for a greatest size that may be None, and a bound."""
    if most is None:
        return bound
    return min(most, bound)


def constant_value(store, variables, constant):
    """Returns the value of a constant. `variables` are the numbers of the globals that it may name."""
    name, operand = constant
    if name == "global.get":
        return store.variables[variables[operand]].value
    return operand


def own_functions(module, instance):
    """Returns the list of the functions of the store that a new instance with this number defines."""
    rows = []
    for number, function in enumerate(module.functions):
        rows.append(("code", instance, number, module.signatures[function[0]]))
    return rows


def own_variables(store, module, variables):
    """Returns the list of new globals. `variables` are the numbers of the imported ones."""
    rows = []
    for kind, mutable, constant in module.variables:
        rows.append(Global(kind, mutable, constant_value(store, variables, constant)))
    return rows


def flat_codes(module, imports):
    """Returns the tuple of the flat code of each function of a module that imports so many functions."""
    return tuple([flatten(module, imports + at) for at in range(len(module.functions))])


def new_instance(store, module, found):
    """Returns a new instance, whose own items are put into the store."""
    functions = imported_numbers(module, found, "func")
    variables = imported_numbers(module, found, "global")
    codes = flat_codes(module, len(functions))
    tables = [Table(least, greatest_size(most, MOST_ENTRIES)) for least, most in module.tables]
    memories = [Memory(least, greatest_size(most, MOST_MEMORY_PAGES)) for least, most in module.memories]
    return Instance(
        module,
        functions + put_all(store.functions, own_functions(module, len(store.instances))),
        imported_numbers(module, found, "table") + put_all(store.tables, tables),
        imported_numbers(module, found, "memory") + put_all(store.memories, memories),
        variables + put_all(store.variables, own_variables(store, module, variables)),
        imported_numbers(module, found, "tag") + put_all(store.tags, [module.signatures[at] for at in module.tags]),
        codes,
    )


def copy_table_segment(store, instance, segment):
    """Copies a table segment and returns True, or returns False if it does not fit."""
    table, constant, functions = segment
    entries = store.tables[instance.tables[table]].entries
    at = unsigned("i32", constant_value(store, instance.variables, constant))
    if at + len(functions) > len(entries):
        return False
    entries[at:at + len(functions)] = [instance.functions[func] for func in functions]
    return True


def copy_memory_segment(store, instance, segment):
    """Copies a memory segment and returns True, or returns False if it does not fit."""
    index, constant, data = segment
    memory = store.memories[instance.memories[index]]
    at = unsigned("i32", constant_value(store, instance.variables, constant))
    if at + len(data) > memory.size():
        return False
    memory.write(at, list(data))
    return True


def copy_segments(store, instance):
    """Copies the segments of an instance. Returns None, or the reason of the trap at the first that does not fit."""
    for segment in instance.module.table_segments:
        if not copy_table_segment(store, instance, segment):
            return UNDEFINED_ELEMENT
    for segment in instance.module.memory_segments:
        if not copy_memory_segment(store, instance, segment):
            return OUT_OF_BOUNDS
    return None


def link(store, module, found):
    """Adds an instance of a module to the store. Returns None, or the reason of the trap while its segments are copied.

    `found` is a tuple of one fitting item for each import.
    """
    instance = new_instance(store, module, found)
    store.instances.append(instance)
    return copy_segments(store, instance)

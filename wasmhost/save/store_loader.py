"""The store of a save, checked and built."""

from wasmhost.acceptance import module_of
from wasmhost.errors import DamagedSave, HostError
from wasmhost.indexes import SORTS, all_items, imported_items
from wasmhost.items import has_item
from wasmhost.limits import MOST_ENTRIES, MOST_HOSTS, MOST_INSTANCES, MOST_KINDS, MOST_MEMORY_PAGES
from wasmhost.link import flat_codes, item_fits
from wasmhost.save.need import need
from wasmhost.store import Global, Instance, Memory, Store, Table, value_fits


def load_module(file):
    """Returns the module of a file."""
    try:
        return module_of(file)
    except HostError:
        raise DamagedSave("modules")


def load_modules(form):
    """Returns the list of the modules of the instances."""
    need(len(form.instances) <= MOST_INSTANCES, "modules")
    return [load_module(file) for file, _ in form.instances]


def load_host(row, number):
    """Returns the host function of this number."""
    signature = row[1]
    params, results = signature
    need(number < MOST_HOSTS and max(len(params), len(results)) <= MOST_KINDS, "functions")
    return "host", number, signature


def load_own(row, modules):
    """Returns a function of an instance."""
    _, instance, number = row
    need(instance < len(modules), "functions")
    module = modules[instance]
    need(number < len(module.functions), "functions")
    return row + (module.signatures[module.functions[number][0]],)


def load_functions(form, modules):
    """Returns the list of the functions."""
    functions = []
    hosts = 0
    for row in form.functions:
        if row[0] == "host":
            functions.append(load_host(row, hosts))
            hosts = hosts + 1
        else:
            functions.append(load_own(row, modules))
    return functions


def load_table(row):
    """Returns a table."""
    most, entries = row
    table = Table(0, most)
    table.entries = list(entries)
    return table


def load_memory(row):
    """Returns a memory."""
    pages, most, cells = row
    memory = Memory(pages, most)
    memory.cells = {place: byte for place, byte in cells}
    return memory


def load_variable(row):
    """Returns a global."""
    kind, mutable, value = row
    return Global(kind, mutable, value)


def owners_of(store):
    """Returns a dict from pairs of an instance and a number to the list of the functions that name them."""
    owners = {}
    for func, row in enumerate(store.functions):
        if row[0] == "code":
            owners.setdefault(row[1:3], []).append(func)
    return owners


def check_numbers(store, module, sort, numbers):
    """Checks the numbers of the items of one kind that an instance has."""
    asked = all_items(module, sort)
    need(len(numbers) == len(asked), "instances")
    for number, what in zip(numbers, asked):
        need(has_item(store, sort, number), "instances")
        need(item_fits(store, module, ("", "", sort, what), number), "instances")


def load_instance(store, module, lists):
    """Returns an instance with these five lists of numbers."""
    for sort, numbers in zip(SORTS, lists):
        check_numbers(store, module, sort, numbers)
    functions, tables, memories, variables, tags = lists
    codes = flat_codes(module, len(imported_items(module, "func")))
    return Instance(module, functions, tables, memories, variables, tags, codes)


def check_own_functions(instance, number, owners):
    """Checks that the functions of an instance are at their indexes, and nowhere else."""
    imports = len(instance.functions) - len(instance.codes)
    for at, func in enumerate(instance.functions[imports:]):
        need(owners.get((number, at)) == [func], "instances")


def load_instances(store, form, modules):
    """Puts the instances into the store."""
    owners = owners_of(store)
    lists = [row[1] for row in form.instances]
    for module, numbers in zip(modules, lists):
        instance = load_instance(store, module, numbers)
        check_own_functions(instance, len(store.instances), owners)
        store.instances.append(instance)


def check_table(store, table):
    """Checks a table."""
    need(len(table.entries) <= table.most <= MOST_ENTRIES, "items")
    for func in table.entries:
        need(func is None or has_item(store, "func", func), "items")


def check_memory(memory, cells):
    """Checks a memory whose bytes are listed in this order."""
    need(memory.pages <= memory.most <= MOST_MEMORY_PAGES, "items")
    last = -1
    for place, byte in cells:
        need(last < place < memory.size() and 1 <= byte <= 255, "items")
        last = place


def check_items(store, form):
    """Checks the items of a store."""
    for table in store.tables:
        check_table(store, table)
    for memory, row in zip(store.memories, form.memories):
        check_memory(memory, row[2])
    for variable in store.variables:
        need(value_fits(variable.kind, variable.value), "items")
    for _, results in store.tags:
        need(len(results) == 0, "items")


def load_store(form):
    """Returns the store that a form describes."""
    modules = load_modules(form)
    store = Store()
    store.functions = load_functions(form, modules)
    store.tables = [load_table(row) for row in form.tables]
    store.memories = [load_memory(row) for row in form.memories]
    store.variables = [load_variable(row) for row in form.variables]
    store.tags = list(form.tags)
    load_instances(store, form, modules)
    check_items(store, form)
    return store

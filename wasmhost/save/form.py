"""The form of a save: what its numbers say, before anything else is checked."""

from wasmhost.indexes import SORTS
from wasmhost.save.numerals import unpack
from wasmhost.save.reading import Source, read_bytes, read_choice, read_entry, read_kind, read_list, read_number
from wasmhost.save.reading import read_numbers, read_pair, read_reason, read_signature, read_text, read_value
from wasmhost.save.reading import read_values
from wasmhost.save.writer import SAVE_HEAD

STATUSES = ("running", "finished", "trapped", "thrown", "asks")


class Form:
    """What a save says. Each list has one tuple for each item, with its parts in the order of the save."""

    def __init__(self, source):
        self.instances = read_list(source, read_instance)
        self.functions = read_list(source, read_function)
        self.tables = read_list(source, read_table)
        self.memories = read_list(source, read_memory)
        self.variables = read_list(source, read_variable)
        self.tags = read_list(source, read_signature)
        self.frames = read_list(source, read_frame)
        self.status = read_status(source)
        self.spent = read_number(source)
        self.known = read_list(source, read_name)
        self.points = read_list(source, read_pair)
        self.fast = read_numbers(source)


def read_instance(source):
    """Returns the file of an instance and the tuple of its five lists of numbers."""
    file = read_bytes(source)
    return file, tuple([read_numbers(source) for _ in SORTS])


def read_function(source):
    """Returns a function. That of an instance lacks its signature, and a host function its number."""
    if read_choice(source, ("code", "host")) == "host":
        return "host", read_signature(source)
    return ("code",) + read_pair(source)


def read_table(source):
    """Returns the greatest size of a table and its entries."""
    most = read_number(source)
    return most, read_list(source, read_entry)


def read_memory(source):
    """Returns the number of pages of a memory, its greatest number, and the pairs of places and bytes."""
    pages, most = read_pair(source)
    return pages, most, read_list(source, read_pair)


def read_variable(source):
    """Returns the kind of a global, whether it is mutable, and its value."""
    kind = read_kind(source)
    mutable = read_choice(source, (False, True))
    return kind, mutable, read_value(source)


def read_frame(source):
    """Returns the function of a call, its place, the values of its locals, and its stack."""
    func, place = read_pair(source)
    slots = read_values(source)
    return func, place, slots, read_values(source)


def read_status(source):
    """Returns a status."""
    name = read_choice(source, STATUSES)
    if name == "running":
        return (name,)
    if name == "finished":
        return name, read_values(source)
    if name == "trapped":
        return name, read_reason(source)
    number = read_number(source)
    return name, number, read_values(source)


def read_name(source):
    """Returns a name."""
    module = read_text(source)
    name = read_text(source)
    kind = read_choice(source, SORTS)
    return module, name, kind, read_number(source)


def read_form(data):
    """Returns the form of the bytes of a save."""
    source = Source(unpack(SAVE_HEAD, data))
    form = Form(source)
    source.check_end()
    return form

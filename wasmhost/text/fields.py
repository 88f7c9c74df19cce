"""The fields of a module, read from tokens."""

from wasmhost.indexes import SORTS
from wasmhost.instructions import CONSTANTS
from wasmhost.limits import MOST_LOCALS
from wasmhost.text.code import take_code
from wasmhost.text.cursor import fail, is_number, pass_mark, pass_word, take_constant, take_identifier
from wasmhost.text.cursor import take_index, take_kind, take_name, take_number, take_string
from wasmhost.text.signatures import kinds_of, take_named_groups, take_signature, take_use, take_used_index

# The words behind which an identifier may stand.
NAMED = ("type", "func", "table", "memory", "tag", "global", "elem", "data")


def take_limits(cursor):
    """Returns a limit."""
    least = take_number(cursor)
    most = None
    if is_number(cursor.token()):
        most = take_number(cursor)
    return least, most


def take_table(cursor):
    """Returns the limit of a table."""
    limit = take_limits(cursor)
    pass_word(cursor, "funcref")
    return limit


def take_head_of_global(cursor):
    """Returns the kind of a global and whether it is mutable."""
    if not cursor.begins_group("mut"):
        return take_kind(cursor), False
    cursor.pass_group_head()
    kind = take_kind(cursor)
    pass_mark(cursor, ")")
    return kind, True


def take_module_constant(cursor, draft):
    """Returns the constant of a global or a segment."""
    pass_mark(cursor, "(")
    token = cursor.pass_token()
    name = token[1]
    if token[0] != "word" or name not in CONSTANTS:
        fail("constant expected", token)
    if name == "global.get":
        operand = take_index(cursor, draft.known["global"])
    else:
        operand = take_constant(cursor, name[:3])
    pass_mark(cursor, ")")
    return name, operand


def take_sort(cursor):
    """Returns the word for a sort of item."""
    token = cursor.pass_token()
    if token[0] != "word" or token[1] not in SORTS:
        fail("unknown kind", token)
    return token[1]


def take_what(cursor, draft, sort):
    """Returns what an import of this sort asks for."""
    if sort == "table":
        return take_table(cursor)
    if sort == "memory":
        return take_limits(cursor)
    if sort == "global":
        return take_head_of_global(cursor)
    return take_used_index(cursor, draft)


def read_type(cursor, draft):
    """Reads a signature."""
    pass_mark(cursor, "(")
    pass_word(cursor, "func")
    signature, _ = take_signature(cursor)
    pass_mark(cursor, ")")
    draft.signatures.append(signature)


def read_import(cursor, draft):
    """Reads an import."""
    module = take_name(cursor)
    name = take_name(cursor)
    pass_mark(cursor, "(")
    sort = take_sort(cursor)
    take_identifier(cursor)
    what = take_what(cursor, draft, sort)
    pass_mark(cursor, ")")
    draft.imports.append((module, name, sort, what))


def param_slots(draft, index, slots):
    """Returns the pairs of an identifier or None and a kind for the parameters of a function."""
    if len(slots) > 0 or index >= len(draft.signatures):
        return slots
    return [(None, kind) for kind in draft.signatures[index][0]]


def first_places(slots):
    """Returns a dict from the identifiers in a list of pairs to the place of the first pair that has it."""
    places = {}
    for at, (identifier, _) in enumerate(slots):
        if identifier is not None:
            places.setdefault(identifier, at)
    return places


def read_func(cursor, draft):
    """Reads a function."""
    index, slots = take_use(cursor, draft)
    own_slots = take_named_groups(cursor, "local")
    if len(own_slots) > MOST_LOCALS:
        fail("too many locals", cursor.token())
    places = first_places(param_slots(draft, index, slots) + own_slots)
    body = take_code(cursor, draft, places)
    draft.functions.append((index, kinds_of(own_slots), body))


def read_table(cursor, draft):
    """Reads a table."""
    draft.tables.append(take_table(cursor))


def read_memory(cursor, draft):
    """Reads a memory."""
    draft.memories.append(take_limits(cursor))


def read_tag(cursor, draft):
    """Reads a tag."""
    draft.tags.append(take_used_index(cursor, draft))


def read_global(cursor, draft):
    """Reads a global."""
    head = take_head_of_global(cursor)
    draft.variables.append(head + (take_module_constant(cursor, draft),))


def read_export(cursor, draft):
    """Reads an export."""
    name = take_name(cursor)
    pass_mark(cursor, "(")
    sort = take_sort(cursor)
    index = take_index(cursor, draft.known[sort])
    pass_mark(cursor, ")")
    draft.exports.append((name, sort, index))


def read_start(cursor, draft):
    """Reads the start function."""
    draft.start = take_index(cursor, draft.known["func"])


def take_target(cursor, draft, sort):
    """Returns the index of the table or memory of a segment, which may be left out."""
    if not cursor.begins_group(sort):
        return 0
    cursor.pass_group_head()
    index = take_index(cursor, draft.known[sort])
    pass_mark(cursor, ")")
    return index


def read_elem(cursor, draft):
    """Reads a table segment."""
    table = take_target(cursor, draft, "table")
    constant = take_module_constant(cursor, draft)
    pass_word(cursor, "func")
    functions = []
    while cursor.token()[0] == "word":
        functions.append(take_index(cursor, draft.known["func"]))
    draft.table_segments.append((table, constant, tuple(functions)))


def read_data(cursor, draft):
    """Reads a memory segment."""
    memory = take_target(cursor, draft, "memory")
    constant = take_module_constant(cursor, draft)
    data = []
    while cursor.token()[0] == "string":
        data.extend(take_string(cursor))
    draft.memory_segments.append((memory, constant, tuple(data)))


READERS = {
    "type": read_type,
    "import": read_import,
    "func": read_func,
    "table": read_table,
    "memory": read_memory,
    "tag": read_tag,
    "global": read_global,
    "export": read_export,
    "start": read_start,
    "elem": read_elem,
    "data": read_data,
}


def read_field(cursor, draft, place):
    """Reads the field whose opening parenthesis is the token at this place."""
    cursor.at = place + 1
    token = cursor.pass_token()
    word = token[1]
    if word == "import" and draft.has_own_items():
        fail("import too late", token)
    if word == "start" and draft.start is not None:
        fail("second start", token)
    if word in NAMED:
        take_identifier(cursor)
    reader = READERS[word]
    reader(cursor, draft)
    pass_mark(cursor, ")")

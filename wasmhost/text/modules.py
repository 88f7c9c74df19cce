"""Modules, read from texts."""

from wasmhost.errors import LimitReached
from wasmhost.indexes import SORTS
from wasmhost.limits import MOST_TEXT
from wasmhost.text.cursor import Cursor, fail, is_identifier, is_word, pass_mark, pass_word, take_identifier
from wasmhost.text.draft import Draft
from wasmhost.text.fields import READERS, read_field
from wasmhost.text.tokens import tokens_of


def pass_field(cursor):
    """Moves on behind a field."""
    cursor.pass_token()
    token = cursor.token()
    if token[0] != "word":
        fail("word expected", token)
    if token[1] not in READERS:
        fail("unknown field", token)
    depth = 1
    while depth > 0:
        token = cursor.pass_token()
        if token[0] == "end":
            fail(") expected", token)
        if token[0] == "(":
            depth += 1
        if token[0] == ")":
            depth -= 1


def find_fields(tokens):
    """Returns the list of the places of the opening parentheses of the fields."""
    cursor = Cursor(tokens)
    pass_mark(cursor, "(")
    pass_word(cursor, "module")
    take_identifier(cursor)
    places = []
    while cursor.token()[0] == "(":
        places.append(cursor.at)
        pass_field(cursor)
    pass_mark(cursor, ")")
    if cursor.token()[0] != "end":
        fail("text must end", cursor.token())
    return places


def thing_of(tokens, place):
    """Returns the sort of thing that the field at this place numbers and the place where an identifier may stand.

    Returns None if the field numbers nothing.
    """
    word = tokens[place + 1][1]
    if word == "type" or word in SORTS:
        return word, place + 2
    if word != "import":
        return None
    # Faults are found later, so only a field that begins as it should is looked at.
    if [token[0] for token in tokens[place + 2:place + 6]] != ["string", "string", "(", "word"]:
        return None
    sort = tokens[place + 5][1]
    if sort not in SORTS:
        return None
    return sort, place + 6


def collect_identifiers(tokens, places):
    """Returns a dict from each sort of thing to a dict from its identifiers to indexes."""
    known = {sort: {} for sort in SORTS + ("type",)}
    counts = {}
    for place in places:
        thing = thing_of(tokens, place)
        if thing is not None:
            sort, at = thing
            index = counts.get(sort, 0)
            counts[sort] = index + 1
            if is_identifier(tokens[at]):
                known[sort].setdefault(tokens[at][1], index)
    return known


def parse(text):
    """Returns the module that a text writes."""
    if len(text) > MOST_TEXT:
        raise LimitReached("text")
    tokens = tokens_of(text)
    places = find_fields(tokens)
    draft = Draft(collect_identifiers(tokens, places))
    cursor = Cursor(tokens)
    signature_places = [place for place in places if is_word(tokens[place + 1], "type")]
    other_places = [place for place in places if not is_word(tokens[place + 1], "type")]
    for place in signature_places + other_places:
        read_field(cursor, draft, place)
    return draft.finished()

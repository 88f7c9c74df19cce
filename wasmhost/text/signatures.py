"""Signatures, their uses and shapes, read from tokens."""

from wasmhost.text.cursor import fail, pass_mark, take_identifier, take_index, take_kind


def take_kinds(cursor):
    """Returns the list of the kinds up to the end of a group, and moves on to this end."""
    kinds = []
    while cursor.token()[0] == "word":
        kinds.append(take_kind(cursor))
    return kinds


def take_named_groups(cursor, word):
    """Returns the list of pairs of an identifier or None and a kind that the groups with this word write."""
    slots = []
    while cursor.begins_group(word):
        cursor.pass_group_head()
        identifier = take_identifier(cursor)
        if identifier is None:
            slots.extend([(None, kind) for kind in take_kinds(cursor)])
        else:
            slots.append((identifier, take_kind(cursor)))
        pass_mark(cursor, ")")
    return slots


def kinds_of(slots):
    """Returns the tuple of the kinds in a list of pairs of an identifier or None and a kind."""
    return tuple([kind for _, kind in slots])


def take_results(cursor):
    """Returns the list of the kinds that the groups of results write."""
    kinds = []
    while cursor.begins_group("result"):
        cursor.pass_group_head()
        kinds.extend(take_kinds(cursor))
        pass_mark(cursor, ")")
    return kinds


def take_signature(cursor):
    """Returns a signature and the list of pairs of its parameters."""
    slots = take_named_groups(cursor, "param")
    results = take_results(cursor)
    return (kinds_of(slots), tuple(results)), slots


def take_indexed_use(cursor, draft):
    """Returns the index of a use of a signature that begins with one, and the list of pairs of its parameters."""
    cursor.pass_group_head()
    index = take_index(cursor, draft.known["type"])
    pass_mark(cursor, ")")
    behind = cursor.at
    signature, slots = take_signature(cursor)
    if cursor.at != behind and draft.signatures[index:index + 1] != [signature]:
        fail("signature mismatch", cursor.token())
    return index, slots


def take_use(cursor, draft):
    """Returns the index of a use of a signature, and the list of pairs of its parameters."""
    if cursor.begins_group("type"):
        return take_indexed_use(cursor, draft)
    signature, slots = take_signature(cursor)
    return draft.index_of(signature), slots


def take_used_index(cursor, draft):
    """Returns the index of a use of a signature whose identifiers have no meaning."""
    index, _ = take_use(cursor, draft)
    return index


def take_shape(cursor, draft):
    """Returns the shape of a block."""
    if cursor.begins_group("type"):
        return take_used_index(cursor, draft)
    signature, _ = take_signature(cursor)
    params, results = signature
    if len(params) > 0 or len(results) > 1:
        return draft.index_of(signature)
    if len(results) == 0:
        return None
    return results[0]

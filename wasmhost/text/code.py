"""Code, read from tokens."""

from wasmhost.instructions import ACCESS_BITS, BLOCKS, CONSTANT_BITS
from wasmhost.limits import MOST_OPEN
from wasmhost.numbers import INSTRUCTIONS
from wasmhost.text.cursor import bounded_number, fail, is_word, pass_mark, pass_word, stands_for_index
from wasmhost.text.cursor import take_constant, take_identifier, take_index
from wasmhost.text.signatures import take_shape, take_used_index

# The sort of thing whose index stands behind the word.
INDEXED = {
    "local.get": "local",
    "local.set": "local",
    "local.tee": "local",
    "global.get": "global",
    "global.set": "global",
    "call": "func",
    "throw": "tag",
    "br": "label",
    "br_if": "label",
}

PLAIN = ("nop", "unreachable", "drop", "select", "return", "memory.size", "memory.grow", "memory.fill", "memory.copy")


class CodeReader:
    """A reading of the code of one function.

    `slots` is a dict from the identifiers of its parameters and locals to their indexes. `labels` are the identifiers
    of the blocks that are open, the innermost one last; None stands for a block without one.
    """

    def __init__(self, cursor, draft, slots):
        self.cursor = cursor
        self.draft = draft
        self.slots = slots
        self.labels = []

    def known_of(self, sort):
        """Returns the dict from the identifiers of this sort of thing to their indexes."""
        if sort == "local":
            return self.slots
        if sort == "label":
            # An inner block comes later and replaces an outer one of the same identifier.
            return {name: len(self.labels) - 1 - at for at, name in enumerate(self.labels)}
        return self.draft.known[sort]

    def take_indexed(self, sort):
        """Returns an index of this sort of thing."""
        return take_index(self.cursor, self.known_of(sort))

    def take_body(self):
        """Returns a row of instructions, a tuple."""
        rows = []
        token = self.cursor.token()
        while token[0] == "word" and token[1] not in ("end", "else"):
            rows.append(self.take_instruction())
            token = self.cursor.token()
        return tuple(rows)

    def take_instruction(self):
        """Returns an instruction."""
        token = self.cursor.pass_token()
        name = token[1]
        if name in BLOCKS:
            if len(self.labels) >= MOST_OPEN:
                fail("nesting too deep", token)
            return self.take_block(name)
        if name in INDEXED:
            return name, self.take_indexed(INDEXED[name])
        if name in CONSTANT_BITS:
            return name, take_constant(self.cursor, name[:3])
        if name in ACCESS_BITS:
            offset = take_setting(self.cursor, "offset=", 0)
            return name, take_exponent(self.cursor, ACCESS_BITS[name]), offset
        if name == "br_table":
            return self.take_branch_table()
        if name == "call_indirect":
            return self.take_indirect_call()
        if name not in PLAIN and name not in INSTRUCTIONS:
            fail("unknown instruction", token)
        return (name,)

    def take_branch_table(self):
        """Returns a br_table."""
        labels = [self.take_indexed("label")]
        while stands_for_index(self.cursor.token()):
            labels.append(self.take_indexed("label"))
        return "br_table", tuple(labels[:-1]), labels[-1]

    def take_indirect_call(self):
        """Returns a call_indirect."""
        table = 0
        if stands_for_index(self.cursor.token()):
            table = self.take_indexed("table")
        return "call_indirect", take_used_index(self.cursor, self.draft), table

    def take_catches(self):
        """Returns the catches of a try_table, a tuple."""
        catches = []
        while self.cursor.begins_group("catch") or self.cursor.begins_group("catch_all"):
            has_tag = self.cursor.begins_group("catch")
            self.cursor.pass_group_head()
            tag = None
            if has_tag:
                tag = self.take_indexed("tag")
            catches.append((tag, self.take_indexed("label")))
            pass_mark(self.cursor, ")")
        return tuple(catches)

    def check_identifier(self, identifier):
        """Moves on behind an identifier that may stand here again."""
        token = self.cursor.token()
        if take_identifier(self.cursor) not in (None, identifier):
            fail("other identifier", token)

    def take_block(self, name):
        """Returns an instruction with code."""
        identifier = take_identifier(self.cursor)
        head = (name, take_shape(self.cursor, self.draft))
        if name == "try_table":
            head = head + (self.take_catches(),)
        self.labels.append(identifier)
        bodies = (self.take_body(),)
        if name == "if":
            bodies = bodies + (self.take_second_body(identifier),)
        pass_word(self.cursor, "end")
        self.check_identifier(identifier)
        self.labels.pop()
        return head + bodies

    def take_second_body(self, identifier):
        """Returns the second body of an if, which is empty if there is no else."""
        if not is_word(self.cursor.token(), "else"):
            return ()
        self.cursor.pass_token()
        self.check_identifier(identifier)
        return self.take_body()


def take_setting(cursor, front, missing):
    """Returns the number in a word that begins with this front, or what stands for a missing word."""
    token = cursor.token()
    if token[0] != "word" or not token[1].startswith(front):
        return missing
    number = bounded_number(token[1][len(front):])
    if number is None:
        fail("number expected", token)
    cursor.pass_token()
    return number


def take_exponent(cursor, bits):
    """Returns the exponent of the alignment of a load or store of so many bits."""
    token = cursor.token()
    alignment = take_setting(cursor, "align=", bits // 8)
    exponent = alignment.bit_length() - 1
    if alignment == 0 or alignment != 1 << exponent:
        fail("power of two expected", token)
    return exponent


def take_code(cursor, draft, slots):
    """Returns the body of a function."""
    return CodeReader(cursor, draft, slots).take_body()

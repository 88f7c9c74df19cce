import copy
import unittest

from support import ACCESS_OPCODES, nested
from wasmhost.check.code import count_places, stack_at, stacks
from wasmhost.check.walker import Walker
from wasmhost.errors import NoSuchItem
from wasmhost.modules import Module
from wasmhost.numbers import INSTRUCTIONS, signature_of

A, B = "i32", "i64"

# The signatures that the tests use, by their indexes.
SIGNATURES = (
    ((), ()),               # 0
    ((A,), (A,)),           # 1
    ((), (A,)),             # 2
    ((A, B), (B,)),         # 3
    ((B,), ()),             # 4
    ((), (A, B)),           # 5
    ((A, B), (A, B)),       # 6
    ((A,), ()),             # 7
)

IMPORTS = (
    ("m", "f", "func", 3),
    ("m", "broken", "func", 99),
    ("m", "t", "table", (1, None)),
    ("m", "g", "global", (A, True)),
    ("m", "h", "global", (B, False)),
    ("m", "x", "tag", 4),
    ("m", "y", "tag", 99),
)

# The first function that is not imported.
FIRST = 2


def module_of(*functions, **parts):
    """A module with these functions behind the imported ones."""
    given = {"signatures": SIGNATURES, "imports": IMPORTS, "functions": functions, "tables": ((2, 2),),
             "memories": ((1, None),), "tags": (0, 6), "variables": ((B, True, ("i64.const", 0)),
                                                                    (A, False, ("i32.const", 0)))}
    given.update(parts)
    return Module(**given)


def stacks_of(body, signature=0, own=()):
    return stacks(module_of((signature, own, tuple(body))), FIRST)


def live(*rows):
    return [(tuple(row), False) for row in rows]


def i32(*values):
    return tuple(("i32.const", value) for value in values)


def i64(*values):
    return tuple(("i64.const", value) for value in values)


class Stacks(unittest.TestCase):
    """Checks the whole list for a body, which must be valid."""

    def valid(self, body, expected, signature=0, own=()):
        found = stacks_of(body, signature, own)
        self.assertEqual(found, expected)
        self.assertEqual(len(found), count_places(tuple(body)))
        module = module_of((signature, own, tuple(body)))
        walker = Walker(module, SIGNATURES[signature], own)
        walker.walk(tuple(body))
        self.assertIsNone(walker.reason)

    def faulty(self, reason, body, places, signature=0, own=(), **parts):
        """The list must end at the place of the fault: it has so many places."""
        module = module_of((signature, own, tuple(body)), **parts)
        found = stacks(module, FIRST)
        self.assertEqual(len(found), places)
        walker = Walker(module, module.signatures[signature], own)
        walker.walk(tuple(body))
        self.assertEqual((walker.reason, walker.seen), (reason, found))
        return found


class Straight(Stacks):
    def test_empty_body(self):
        self.valid((), live(()))

    def test_constants_and_drop(self):
        self.valid(i32(1) + i64(2) + (("nop",), ("drop",), ("drop",)), live((), (A,), (A, B), (A, B), (A,), ()))

    def test_numeric_instructions(self):
        for name in INSTRUCTIONS:
            params, results = signature_of(name)
            body = tuple((kind + ".const", 1) for kind in params) + ((name,), ("drop",))
            rows = [params[:count] for count in range(len(params) + 1)] + [results, ()]
            with self.subTest(name):
                self.valid(body, live(*rows))

    def test_values_below_stay(self):
        self.valid(i64(1) + i32(1, 2) + (("i32.add",), ("drop",), ("drop",)),
                   live((), (B,), (B, A), (B, A, A), (B, A), (B,), ()))

    def test_locals(self):
        body = (("local.get", 1), ("local.set", 3), ("local.get", 2), ("local.tee", 0), ("local.set", 2),
                ("local.get", 1))
        self.valid(body, live((), (B,), (), (A,), (A,), (), (B,)), signature=3, own=(A, B))

    def test_globals(self):
        body = (("global.get", 0), ("global.set", 0), ("global.get", 1), ("global.set", 2), ("global.get", 3),
                ("drop",))
        self.valid(body, live((), (A,), (), (B,), (), (A,), ()))

    def test_loads_and_stores(self):
        exponents = {"8": 0, "16": 1, "32": 2, "": None}
        for _, name in ACCESS_OPCODES:
            kind, word = name.split(".")
            digits = "".join(letter for letter in word if letter.isdigit())
            most = exponents[digits] if digits else {A: 2, B: 3}[kind]
            for exponent in range(most + 1):
                with self.subTest(name=name, exponent=exponent):
                    if word.startswith("load"):
                        self.valid(i32(0) + ((name, exponent, 7), ("drop",)), live((), (A,), (kind,), ()))
                    else:
                        self.valid(i32(0) + ((kind + ".const", 1), (name, exponent, 0)), live((), (A,), (A, kind), ()))
            with self.subTest(name=name):
                front = i32(0) if word.startswith("load") else i32(0) + ((kind + ".const", 1),)
                for exponent in (most + 1, 31):
                    self.faulty("alignment too large", front + ((name, exponent, 0),), len(front) + 1)
                # Checked before the stack.
                self.faulty("alignment too large", ((name, most + 1, 0),), 1)
                self.faulty("kind mismatch", ((name, most, 0),), 1)
                self.faulty("kind mismatch", i64(0) + front[1:] + ((name, most, 0),), len(front) + 1)
                other = {A: B, B: A}[kind]
                if word.startswith("store"):
                    self.faulty("kind mismatch", i32(0) + ((other + ".const", 1), (name, 0, 0)), 3)
                self.faulty("unknown memory", front + ((name, 31, 0),), len(front) + 1, memories=())

    def test_memory_instructions(self):
        self.valid((("memory.size",), ("memory.grow",), ("drop",)), live((), (A,), (A,), ()))
        for name in ("memory.fill", "memory.copy"):
            self.valid(i32(1, 2, 3) + ((name,),), live((), (A,), (A, A), (A, A, A), ()))
            self.faulty("kind mismatch", i32(1, 2) + ((name,),), 3)
            self.faulty("kind mismatch", i64(1) + i32(1, 2) + ((name,),), 4)
        self.faulty("kind mismatch", i64(1) + (("memory.grow",),), 2)

    def test_an_imported_memory_is_a_memory(self):
        imports = IMPORTS + (("m", "m", "memory", (1, None)),)
        module = module_of((0, (), (("memory.size",), ("drop",))), imports=imports, memories=())
        self.assertEqual(stacks(module, FIRST), live((), (A,), ()))

    def test_select(self):
        self.valid(i64(1, 2) + i32(3) + (("select",), ("drop",)), live((), (B,), (B, B), (B, B, A), (B,), ()))
        self.valid(i32(1, 2, 3) + (("select",), ("drop",)), live((), (A,), (A, A), (A, A, A), (A,), ()))

    def test_calls(self):
        self.valid(i32(1) + i64(2) + (("call", 0), ("drop",)), live((), (A,), (A, B), (B,), ()))
        self.valid((("call", 2),), live((), ()))
        self.valid(i32(0) + (("call_indirect", 5, 1), ("drop",), ("drop",)), live((), (A,), (A, B), (A,), ()))
        self.valid(i32(1) + i64(2) + i32(0) + (("call_indirect", 3, 0), ("drop",)),
                   live((), (A,), (A, B), (A, B, A), (B,), ()))

    def test_results(self):
        self.valid(i32(1) + i64(2), live((), (A,), (A, B)), signature=5)
        self.valid((("local.get", 0),), live((), (A,)), signature=1)


class Blocks(Stacks):
    def test_block(self):
        self.valid((("block", None, (("nop",),)),), live((), (), (), ()))
        self.valid((("block", A, i32(1)), ("drop",)), live((), (), (A,), (A,), ()))
        self.valid((("block", B, i64(1)), ("drop",)), live((), (), (B,), (B,), ()))

    def test_values_below_a_block(self):
        body = i64(1) + (("block", A, i32(1)), ("drop",), ("drop",))
        self.valid(body, live((), (B,), (B,), (B, A), (B, A), (B,), ()))

    def test_parameters(self):
        inner = (("drop",), ("drop",)) + i64(3)
        body = i64(9) + i32(1) + i64(2) + (("block", 3, inner), ("drop",), ("drop",))
        self.valid(body, live((), (B,), (B, A), (B, A, B), (B, A, B), (B, A), (B,), (B, B), (B, B), (B,), ()))

    def test_loop(self):
        inner = (("local.get", 0), ("br_if", 0))
        body = i32(1) + (("loop", 1, inner), ("drop",))
        self.valid(body, live((), (A,), (A,), (A, A), (A,), (A,), ()), signature=0, own=(A,))

    def test_if(self):
        body = i64(5) + i32(1) + (("if", A, i32(1), (("nop",),) + i32(2)), ("drop",), ("drop",))
        self.valid(body, live((), (B,), (B, A), (B,), (B, A), (B,), (B,), (B, A), (B, A), (B,), ()))

    def test_if_with_parameters(self):
        body = i32(4, 1) + (("if", 1, (), (("drop",),) + i32(2)), ("drop",))
        self.valid(body, live((), (A,), (A, A), (A,), (A,), (), (A,), (A,), ()))

    def test_if_without_bodies(self):
        self.valid(i32(1) + (("if", None, (), ()),), live((), (A,), (), (), ()))

    def test_try_table(self):
        # The label 2 is that of the function, which takes nothing; the tag 3 carries what the label 1 takes.
        inner = (("try_table", None, ((0, 0), (3, 1), (None, 2)), (("call", 2),)),) + i64(1)
        body = (("block", 5, (("block", B, inner), ("drop",)) + i32(1) + i64(1)), ("drop",), ("drop",))
        self.valid(body, live((), (), (), (), (), (), (B,), (B,), (), (A,), (A, B), (A, B), (A,), ()))

    def test_parameters_of_a_try_table(self):
        body = i32(1) + (("try_table", 1, (), (("drop",),) + i32(2)), ("drop",))
        self.valid(body, live((), (A,), (A,), (), (A,), (A,), ()))

    def test_nested_deep(self):
        for name in ("block", "loop", "try_table"):
            self.valid(nested(60, name), live(*[()] * 121))
        self.assertEqual(count_places(nested(60, "if")), 181)

    def test_faults_inside(self):
        self.faulty("kind mismatch", (("block", A, i64(1)),), 3)
        self.faulty("kind mismatch", (("block", None, i32(1)),), 3)
        self.faulty("kind mismatch", (("block", A, ()),), 2)
        self.faulty("kind mismatch", i32(1) + (("block", A, ()),), 3)
        self.faulty("kind mismatch", i32(1) + (("block", None, (("drop",),)),), 3)
        self.faulty("kind mismatch", i32(1) + (("if", A, (), i32(1)),), 3)
        self.faulty("kind mismatch", i32(1) + (("if", A, i32(1), ()),), 5)
        self.faulty("kind mismatch", i32(1) + (("if", A, i32(1), i64(1)),), 6)

    def test_stack_in_front_of_a_fault(self):
        found = self.faulty("kind mismatch", i64(5) + (("block", None, i32(1) + (("i32.add",),)), ("nop",)), 4)
        self.assertEqual(found, live((), (B,), (B,), (B, A)))
        found = self.faulty("kind mismatch", i64(5) + (("block", A, i32(1, 2)), ("nop",)), 5)
        self.assertEqual(found[-1], ((B, A, A), False))

    def test_faults_of_the_block_itself(self):
        for name in ("block", "loop"):
            self.faulty("unknown signature", i32(1) + ((name, 8, ()),), 2)
            self.faulty("unknown signature", i32(1) + ((name, 4294967295, ()),), 2)
            self.faulty("kind mismatch", i64(1) + ((name, 1, (("nop",),)),), 2)
            self.faulty("kind mismatch", ((name, 1, (("nop",),)),), 1)
        self.faulty("unknown signature", (("if", 8, (), ()),), 1)
        self.faulty("kind mismatch", (("if", None, (), ()),), 1)
        self.faulty("kind mismatch", i64(1) + (("if", None, (), ()),), 2)
        self.faulty("kind mismatch", i64(1) + i32(1) + (("if", 1, (), ()),), 3)
        self.faulty("unknown signature", (("try_table", 8, (), ()),), 1)
        self.faulty("kind mismatch", (("try_table", 1, (), ()),), 1)

    def test_catches(self):
        inside = "block", None
        self.faulty("unknown label", (inside + ((("try_table", None, ((None, 2),), ()),),),), 2)
        self.faulty("unknown label", (("try_table", None, ((None, 1),), ()),), 1)
        self.faulty("unknown label", (("try_table", None, ((99, 1),), ()),), 1)
        self.faulty("unknown tag", (("try_table", None, ((4, 0),), ()),), 1)
        self.faulty("unknown tag", (("try_table", None, ((1, 0),), ()),), 1)
        self.faulty("kind mismatch", (("try_table", None, ((0, 0),), ()),), 1)
        self.faulty("kind mismatch", (("try_table", None, ((2, 0), (None, 0), (3, 0)), ()),), 1)
        self.faulty("kind mismatch", (("block", A, (("try_table", None, ((None, 0),), ()),)),), 2)
        self.faulty("kind mismatch", (("block", A, (("try_table", None, ((0, 0),), ()),)),), 2)
        self.faulty("kind mismatch", (("try_table", 1, ((None, 9),), ()),), 1)
        self.valid((("try_table", None, ((2, 0), (None, 0)), ()),), live((), (), ()))

    def test_the_label_of_a_loop_takes_parameters(self):
        self.valid(i64(1) + (("loop", 4, (("try_table", None, ((0, 0),), ()), ("drop",))),),
                   live((), (B,), (B,), (B,), (B,), (), ()))


class Jumps(Stacks):
    def test_br_if(self):
        body = (("block", B, i64(1) + i32(0) + (("br_if", 0),)), ("drop",))
        self.valid(body, live((), (), (B,), (B, A), (B,), (B,), ()))

    def in_four_blocks(self, body):
        """The labels 0 to 4 take an i32, an i64, nothing, an i32 and an i64, and nothing."""
        for shape in (A, B, None, 5):
            body = (("block", shape, body), ("unreachable",))
        return body

    def test_labels_count_from_the_innermost_block(self):
        for label, front, kinds in ((0, i32(1), (A,)), (1, i64(1), (B,)), (2, (), ()), (3, i32(1) + i64(1), (A, B)),
                                    (4, (), ())):
            found = stacks_of(self.in_four_blocks(front + i32(0) + (("br_if", label), ("unreachable",))))
            at = 4 + len(front)
            self.assertEqual(found[at:at + 4], live(kinds, kinds + (A,), kinds) + [((), True)])
        for label, front in ((0, i64(1)), (1, i32(1)), (3, i64(1) + i32(1)), (3, i64(1))):
            body = self.in_four_blocks(front + i32(0) + (("br_if", label),))
            self.faulty("kind mismatch", body, 4 + len(front) + 2)
        self.faulty("unknown label", self.in_four_blocks((("br", 5),)), 5)

    def test_labels_behind_a_block(self):
        for name in ("block", "loop", "try_table"):
            self.faulty("unknown label", nested(1, name) + (("br", 1),), 3)
            self.valid((("block", B, nested(2, name) + i64(1) + (("br", 0),)), ("drop",)),
                       live(*[()] * 6) + live((B,)) + [((), True)] + live((B,), ()))
        self.faulty("unknown label", i32(1) + (("if", None, (), (("br", 2),)),), 4)
        self.faulty("unknown label", i32(1) + (("if", None, (), ()), ("br", 1)), 5)

    def test_br_if_to_the_function(self):
        self.valid(i32(1, 2) + (("br_if", 0),), live((), (A,), (A, A), (A,)), signature=2)

    def test_faults_of_branches(self):
        self.faulty("unknown label", (("br", 1),), 1)
        self.faulty("unknown label", (("block", None, (("br_if", 2),)),), 2)
        self.faulty("unknown label", (("br_table", (0, 1), 0),), 1)
        self.faulty("unknown label", (("br_table", (0,), 1),), 1)
        self.faulty("unknown label", (("br", 4294967295),), 1)
        self.faulty("kind mismatch", (("br_if", 0),), 1)
        self.faulty("kind mismatch", i64(0) + (("br_if", 0),), 2)
        self.faulty("kind mismatch", (("block", A, (("br", 0),)),), 2)
        self.faulty("kind mismatch", (("block", A, i64(1) + (("br", 0),)),), 3)
        self.faulty("kind mismatch", i32(1) + (("block", A, (("br", 0),)),), 3)
        self.faulty("kind mismatch", (("br_table", (), 0),), 1)
        self.faulty("kind mismatch", i64(1) + (("br_table", (), 0),), 2)
        self.faulty("kind mismatch", (("return",),), 1, signature=2)
        self.faulty("kind mismatch", i64(1) + (("return",),), 2, signature=2)
        self.faulty("kind mismatch", (("throw", 0),), 1)
        self.faulty("kind mismatch", i32(1) + (("throw", 0),), 2)

    def test_extra_values_in_front_of_a_branch(self):
        self.valid(i64(1) + i32(2) + (("br", 0),), [((), False), ((B,), False), ((B, A), False), ((), True)],
                   signature=2)
        self.valid(i64(1) + i32(2) + (("return",),), [((), False), ((B,), False), ((B, A), False), ((), True)],
                   signature=2)

    def test_br_table(self):
        body = (("block", A, (("block", A, i32(1, 2) + (("br_table", (0, 1, 2), 0),)),)),)
        found = live((), (), (), (A,), (A, A)) + [((), True)] + live((A,), (A,))
        self.valid(body, found, signature=2)

    def test_br_table_with_different_numbers(self):
        self.faulty("kind mismatch", (("block", None, i32(1, 2) + (("br_table", (0,), 1),)),) + i32(1), 4, signature=2)
        self.faulty("kind mismatch", (("block", None, i32(1, 2) + (("br_table", (1,), 0),)),) + i32(1), 4, signature=2)
        self.faulty("kind mismatch", (("block", None, (("unreachable",), ("br_table", (0, 1), 1))),), 3, signature=2)

    def test_br_table_with_different_kinds(self):
        # What is unknown matches both labels, what is known only one of them.
        inner = (("unreachable",), ("br_table", (0, 1), 0))
        self.valid((("block", B, inner), ("drop",)) + i32(1),
                   live((), ()) + [((), True), ((), True)] + live((B,), (), (A,)), signature=2)
        inner = (("unreachable",),) + i32(1, 1) + (("br_table", (1, 0), 1),)
        self.faulty("kind mismatch", (("block", B, inner),), 5, signature=2)

    def test_throw(self):
        self.valid(i64(1) + (("throw", 0),), live((), (B,)) + [((), True)])
        self.valid((("throw", 2), ("i32.add",)) + (("drop",),), live(()) + [((), True), ((A,), True), ((), True)])


class Dead(Stacks):
    def test_each_instruction_that_loosens(self):
        for instruction in (("unreachable",), ("return",), ("br", 0), ("throw", 2)):
            self.valid((instruction, ("nop",)), [((), False), ((), True), ((), True)])
        self.valid(i32(1) + (("br_table", (), 0), ("nop",)), live((), (A,)) + [((), True), ((), True)])

    def test_kinds_are_forgotten(self):
        self.valid(i32(1) + i64(1) + (("unreachable",),), live((), (A,), (A, B)) + [((), True)], signature=0)

    def test_values_below_the_block_stay(self):
        body = i64(1) + (("block", None, i32(1) + (("unreachable",),)), ("drop",))
        self.valid(body, live((), (B,), (B,), (B, A)) + [((B,), True)] + live((B,), ()))

    def test_unknown_kinds_above_a_block(self):
        # However much a loose body takes, the values below its block stay.
        inner = (("unreachable",),) + i32(1) + (("i32.add",), ("select",), ("drop",), ("drop",), ("select",),
                                                ("drop",), ("call", 0), ("i64.add",), ("drop",))
        rows = [(B, B)] * 2 + [(B, B, A), (B, B, A), (B, B, None), (B, B), (B, B), (B, B, None), (B, B)]
        rows += [(B, B, B), (B, B, B), (B, B)]
        found = live((), (B,)) + live(rows[0]) + live(rows[0]) + [(row, True) for row in rows[1:]]
        self.valid(i64(1, 2) + (("block", None, inner), ("drop",), ("drop",)), found + live((B, B), (B,), ()))

    def test_results_of_a_loose_body_above_a_value(self):
        body = i64(1) + (("block", 5, (("unreachable",),) + i64(2)), ("drop",), ("drop",), ("drop",))
        self.valid(body, live((), (B,), (B,)) + [((B,), True), ((B, B), True)] + live((B, A, B), (B, A), (B,), ()))

    def test_unknown_kinds(self):
        body = (("unreachable",), ("i64.add",), ("drop",), ("drop",), ("select",), ("i32.eqz",), ("drop",))
        self.valid(body, [((), False)] + [(row, True) for row in ((), (B,), (), (), (None,), (A,), ())])

    def test_unknown_kinds_lie_below(self):
        body = (("unreachable",),) + i32(1) + (("call", 0),)
        self.faulty("kind mismatch", body, 3)
        body = (("unreachable",),) + i64(1) + (("call", 0), ("drop",))
        self.valid(body, [((), False)] + [(row, True) for row in ((), (B,), (B,), ())])

    def test_select(self):
        for kind, push in ((A, i32(1)), (B, i64(1))):
            # One of the two is unknown, or none of them.
            for front in (push, push + push):
                body = (("unreachable",),) + front + i32(0) + (("select",), ("drop",))
                self.assertEqual(stacks_of(body)[-2], ((kind,), True))
        body = (("unreachable",), ("select",)) + i32(0) + (("select",), ("drop",))
        self.valid(body, [((), False)] + [(row, True) for row in ((), (None,), (None, A), (None,), ())])
        body = (("unreachable",), ("select",)) + i64(1) + i32(0) + (("select",), ("drop",))
        self.valid(body, [((), False)] + [(row, True) for row in ((), (None,), (None, B), (None, B, A), (B,), ())])
        self.faulty("kind mismatch", (("unreachable",),) + i32(1) + i64(1) + i32(1) + (("select",),), 5)

    def test_faults_at_dead_places(self):
        self.faulty("kind mismatch", (("unreachable",),) + i64(1) + (("i32.eqz",),), 3)
        self.faulty("unknown local", (("unreachable",), ("local.get", 0)), 2)
        self.faulty("kind mismatch", (("unreachable",),) + i32(1), 3)
        self.faulty("kind mismatch", (("unreachable",),) + i64(1), 3, signature=2)
        self.faulty("kind mismatch", (("unreachable",),) + i32(1, 1), 4, signature=2)
        self.valid((("unreachable",),) + i32(1), [((), False), ((), True), ((A,), True)], signature=2)
        self.valid((("unreachable",),), [((), False), ((), True)], signature=5)

    def test_body_inside_of_a_dead_place(self):
        # It is not loose at its beginning, but dead.
        self.faulty("kind mismatch", (("unreachable",), ("block", None, (("drop",),))), 3)
        body = (("unreachable",),) + i64(7) + (("block", 1, (("drop",),) + i32(1)), ("drop",), ("drop",))
        self.faulty("kind mismatch", body, 3)
        body = (("unreachable",),) + i64(7) + i32(1) + (("block", 1, (("drop",),) + i32(1)), ("drop",), ("drop",))
        self.valid(body, [((), False)] + [(row, True) for row in (
            (), (B,), (B, A), (B, A), (B,), (B, A), (B, A), (B,), ())])

    def test_parameters_of_unknown_kind(self):
        body = (("unreachable",), ("block", 3, (("nop",), ("drop",), ("drop",)) + i64(1)), ("drop",))
        self.valid(body, [((), False)] + [(row, True) for row in ((), (A, B), (A, B), (A,), (), (B,), (B,), ())])

    def test_behind_a_loose_body(self):
        body = (("block", A, (("unreachable",), ("nop",))), ("drop",))
        self.valid(body, live((), ()) + [((), True), ((), True)] + live((A,), ()))
        body = i32(1) + (("if", None, (("return",),), (("nop",),)), ("nop",))
        self.valid(body, live((), (A,), ()) + [((), True)] + live((), (), (), ()))

    def test_block_inside_of_a_body_inside_of_a_dead_place(self):
        body = (("unreachable",), ("block", None, (("block", None, (("nop",),)), ("nop",))), ("nop",))
        self.valid(body, [((), False)] + [((), True)] * 8)

    def test_body_behind_a_loose_one(self):
        body = (("block", None, (("unreachable",),)), ("block", None, (("nop",),)))
        self.valid(body, live((), ()) + [((), True)] + live((), (), (), ()))

    def test_br_if_makes_kinds_known(self):
        body = (("block", A, (("unreachable",), ("br_if", 0))), ("drop",))
        self.valid(body, live((), ()) + [((), True), ((A,), True)] + live((A,), ()))

    def test_local_tee_makes_a_kind_known(self):
        body = (("unreachable",), ("local.tee", 0), ("drop",))
        self.valid(body, [((), False), ((), True), ((B,), True), ((), True)], own=(B,))

    def test_dead_is_a_truth_value(self):
        found = stacks_of((("unreachable",), ("block", None, ())))
        self.assertEqual([repr(dead) for _, dead in found], ["False", "True", "True", "True"])
        self.assertTrue(all(isinstance(row, tuple) and isinstance(row[0], tuple) for row in found))


class Names(Stacks):
    def test_unknown_things(self):
        for reason, instruction in (
                ("unknown local", ("local.get", 5)), ("unknown global", ("global.get", 9)),
                ("unknown global", ("global.set", 4294967295)), ("unknown function", ("call", 4)),
                ("unknown function", ("call", 4294967295)), ("unknown tag", ("throw", 5)),
                ("unknown tag", ("throw", 4294967295)), ("unknown signature", ("call_indirect", 4294967295, 1)),
                ("unknown table", ("call_indirect", 0, 7)), ("unknown table", ("call_indirect", 0, 4294967295)),
                ("unknown local", ("local.get", 2)), ("unknown local", ("local.set", 2)),
                ("unknown local", ("local.tee", 4294967295)), ("unknown global", ("global.get", 4)),
                ("unknown global", ("global.set", 4)), ("unknown function", ("call", 3)),
                ("unknown function", ("call", 1)), ("unknown signature", ("call_indirect", 8, 1)),
                ("unknown table", ("call_indirect", 0, 2)), ("unknown table", ("call_indirect", 8, 2)),
                ("unknown tag", ("throw", 4)), ("unknown tag", ("throw", 1))):
            with self.subTest(instruction):
                # The names are checked before the stack.
                self.faulty(reason, (("nop",), instruction, ("nop",)), 2, signature=7, own=(B,))

    def test_signatures_of_functions_and_tags(self):
        for index, reason in ((7, "kind mismatch"), (8, "unknown function"), (4294967295, "unknown function")):
            imports = (("m", "f", "func", index), ("m", "x", "tag", index), ("m", "g", "func", 0))
            self.faulty(reason, (("nop",), ("call", 0)), 2, imports=imports)
            self.faulty(reason.replace("function", "tag"), (("nop",), ("throw", 0)), 2, imports=imports)

    def test_immutable_globals(self):
        for index in (1, 3):
            self.faulty("global is immutable", (("global.set", index),), 1)
        self.faulty("kind mismatch", (("global.set", 0),), 1)
        self.faulty("kind mismatch", i64(1) + (("global.set", 0),), 2)
        self.faulty("kind mismatch", i32(1) + (("global.set", 2),), 2)

    def test_without_a_memory(self):
        for name in ("memory.size", "memory.grow", "memory.fill", "memory.copy"):
            self.faulty("unknown memory", ((name,),), 1, memories=())

    def test_without_a_table(self):
        imports = tuple(row for row in IMPORTS if row[2] != "table")
        self.faulty("unknown table", i32(0) + (("call_indirect", 0, 0),), 2, tables=(), imports=imports)
        self.faulty("unknown table", i32(0) + (("call_indirect", 0, 1),), 2, imports=imports)

    def test_kinds_of_straight_instructions(self):
        for body in ((("drop",),), i32(1) + (("i32.add",),), i64(1, 1) + (("i32.add",),), i32(1) + i64(1) + (("i32.add",),),
                     i64(1) + i32(1) + (("i64.shl",),), i32(1) + (("i64.eqz",),), (("select",),), i32(1) + (("select",),),
                     i32(1, 1) + (("select",),), i32(1, 1) + i64(1) + (("select",),), i32(1) + i64(1) + i32(1) + (("select",),),
                     i64(1) + (("local.set", 0),), i64(1) + (("local.tee", 0),), (("local.tee", 0),), (("call", 0),),
                     i64(1) + i32(1) + (("call", 0),), i64(1) + (("call_indirect", 0, 0),), (("call_indirect", 0, 0),),
                     i32(0) + (("call_indirect", 1, 0),), i64(1) + i32(0) + (("call_indirect", 1, 0),)):
            with self.subTest(body):
                self.faulty("kind mismatch", body + (("nop",),), len(body), own=(A,))

    def test_end_of_the_function(self):
        self.faulty("kind mismatch", i32(1), 2)
        self.faulty("kind mismatch", (), 1, signature=2)
        self.faulty("kind mismatch", i64(1), 2, signature=2)
        self.faulty("kind mismatch", i32(1, 1), 3, signature=2)
        self.faulty("kind mismatch", i64(1) + i32(1), 3, signature=5)

    def test_only_the_first_fault(self):
        self.faulty("kind mismatch", (("nop",), ("drop",), ("local.get", 9)), 2)


class Functions(unittest.TestCase):
    def missing(self, module, func):
        for action in (stacks, lambda *given: stack_at(*given, 0)):
            with self.assertRaises(NoSuchItem) as caught:
                action(module, func)
            self.assertEqual((caught.exception.kind, caught.exception.index), ("func", func))

    def test_no_such_function(self):
        module = module_of((0, (), ()), (0, (), (("nop",),)))
        for func in (4, 5, -1, -2, 10 ** 30):
            self.missing(module, func)
        self.missing(Module(), 0)

    def test_imported_functions(self):
        module = module_of((0, (), ()))
        for func in (0, 1):
            self.missing(module, func)

    def test_all_functions_are_counted(self):
        module = module_of((0, (), ()), (0, (), (("nop",),)))
        self.assertEqual([len(stacks(module, func)) for func in (2, 3)], [1, 2])
        self.assertEqual(len(stacks(Module(signatures=SIGNATURES, functions=((0, (), (("nop",),)),)), 0)), 2)

    def test_signature_names_none(self):
        module = module_of((8, (), (("nop",),)), (4294967295, (), ()), (7, (), ()))
        self.assertEqual([stacks(module, func) for func in (2, 3, 4)], [[], [], [((), False)]])
        self.assertIsNone(stack_at(module, 2, 0))

    def test_lists_are_new_and_the_module_stays(self):
        module = module_of((0, (), (("nop",),)))
        before = copy.deepcopy(vars(module))
        stacks(module, 2).append(1)
        self.assertEqual(stacks(module, 2), [((), False)] * 2)
        self.assertEqual(vars(module), before)


class Places(unittest.TestCase):
    def test_count_places(self):
        for body, count in (((), 1), ((("nop",),), 2), ((("block", None, ()),), 3), ((("loop", None, ()),), 3),
                            ((("if", None, (), ()),), 4), ((("try_table", None, ((0, 0),), ()),), 3),
                            ((("if", None, (("nop",),), (("nop",), ("drop",))), ("nop",)), 8),
                            ((("block", 1, (("if", A, (), ()),)), ("br_table", (1, 2), 3)), 7),
                            ((("i32.load", 2, 1), ("call_indirect", 0, 0)), 3)):
            with self.subTest(body):
                self.assertEqual(count_places(body), count)

    def test_count_places_of_deep_bodies(self):
        for name, each in (("block", 2), ("loop", 2), ("if", 3), ("try_table", 2)):
            self.assertEqual(count_places(nested(60, name)), 60 * each + 1)

    def test_stack_at(self):
        module = module_of((0, (), i32(1) + (("block", None, (("nop",),)), ("drop",))))
        rows = live((), (A,), (A,), (A,), (A,), ())
        self.assertEqual(stacks(module, 2), rows)
        self.assertEqual([stack_at(module, 2, place) for place in range(6)], rows)
        for place in (-1, -6, 6, 7, 10 ** 20):
            self.assertIsNone(stack_at(module, 2, place))

    def test_stack_at_behind_a_fault(self):
        module = module_of((0, (), (("drop",), ("nop",))))
        self.assertEqual([stack_at(module, 2, place) for place in (0, 1, 2)], [((), False), None, None])


if __name__ == "__main__":
    unittest.main()

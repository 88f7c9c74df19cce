"""The faults of code: their reasons, places and stacks."""
import unittest

from support import ACCESS_OPCODES, nested
from wasmhost.check.code import stacks
from wasmhost.check.modules import check
from wasmhost.modules import Module

A, B = "i32", "i64"

SIGNATURES = (
    ((), ()),               # 0
    ((A,), (A,)),           # 1
    ((), (A,)),             # 2
    ((A, B), (B,)),         # 3
    ((B,), ()),             # 4
    ((), (A, B)),           # 5
    ((A,), ()),             # 6
)

IMPORTS = (
    ("m", "f", "func", 3),
    ("m", "t", "table", (1, None)),
    ("m", "g", "global", (A, True)),
    ("m", "h", "global", (B, False)),
    ("m", "x", "tag", 4),
)

MOST = 4294967295

GOOD = (0, (), (("nop",),))


def module_of(*functions, **changes):
    given = {"signatures": SIGNATURES, "imports": IMPORTS, "functions": functions, "tables": ((2, 2),),
             "memories": ((1, None),), "tags": (0, 6), "variables": ((B, True, ("i64.const", 0)),
                                                                    (A, False, ("i32.const", 0)))}
    given.update(changes)
    return Module(**given)


def i32(*values):
    return tuple(("i32.const", value) for value in values)


def i64(*values):
    return tuple(("i64.const", value) for value in values)


DEAD = (("unreachable",),)


class Code(unittest.TestCase):
    def valid(self, body, signature=0, own=(), **changes):
        self.assertIsNone(check(module_of((signature, own, tuple(body)), **changes)))

    def faulty(self, reason, place, kinds, body, dead=False, signature=0, own=(), **changes):
        """Checks the fault of a function, which stands behind a good one, and that stacks end with its stack."""
        module = module_of(GOOD, (signature, own, tuple(body)), GOOD, **changes)
        expected = ("code", 1, reason, place, (tuple(kinds), dead))
        self.assertEqual(check(module), expected)
        imported = sum(1 for row in module.imports if row[2] == "func")
        found = stacks(module, imported + 1)
        self.assertEqual((len(found) - 1, found[-1]), expected[3:])


class Names(Code):
    def test_each_name(self):
        for reason, instruction in (
                ("unknown local", ("local.get", 2)), ("unknown local", ("local.set", 2)),
                ("unknown local", ("local.tee", MOST)), ("unknown global", ("global.get", 4)),
                ("unknown global", ("global.set", 4)), ("unknown function", ("call", 4)),
                ("unknown function", ("call", MOST)), ("unknown signature", ("call_indirect", 7, 0)),
                ("unknown table", ("call_indirect", 0, 2)), ("unknown table", ("call_indirect", 7, 2)),
                ("unknown tag", ("throw", 3)), ("unknown label", ("br", 1)), ("unknown label", ("br_if", MOST)),
                ("unknown label", ("br_table", (0, 1), 0)), ("unknown label", ("br_table", (), 1)),
                ("unknown signature", ("block", 7, ())), ("unknown signature", ("loop", MOST, ())),
                ("unknown signature", ("if", 7, (), ())), ("unknown signature", ("try_table", 7, (), ())),
                ("unknown label", ("try_table", None, ((None, 1),), ())),
                ("unknown tag", ("try_table", None, ((3, 0),), ())),
                ("global is immutable", ("global.set", 1)), ("global is immutable", ("global.set", 3))):
            with self.subTest(instruction):
                # In front of the stack, behind a value, at a dead place, and inside of a block.
                self.faulty(reason, 0, (), (instruction,), own=(A, B))
                self.faulty(reason, 1, (B,), i64(1) + (instruction, ("drop",)), own=(A, B))
                self.faulty(reason, 1, (), DEAD + (instruction,), dead=True, own=(A, B))
        self.faulty("unknown local", 3, (A, B), i32(1) + (("block", None, i64(1) + (("local.get", 9),)), ("drop",)))

    def test_parameters_are_locals(self):
        self.valid((("local.get", 1), ("drop",), ("local.get", 2), ("drop",)) + i64(1), signature=3, own=(A,))
        self.faulty("unknown local", 0, (), (("local.get", 3),), signature=3, own=(A,))

    def test_without_a_memory(self):
        for name in ("memory.size", "memory.grow", "memory.fill", "memory.copy"):
            self.faulty("unknown memory", 1, (B,), i64(1) + ((name,),), memories=())

    def test_names_of_faults_are_those_of_the_first_place(self):
        self.faulty("kind mismatch", 1, (), (("nop",), ("drop",), ("local.get", 9)))
        self.faulty("unknown local", 1, (), (("nop",), ("local.get", 9), ("drop",), ("drop",), ("drop",)))


class Accesses(Code):
    def test_each_exponent(self):
        widths = {"8": 0, "16": 1, "32": 2}
        for _, name in ACCESS_OPCODES:
            kind, word = name.split(".")
            digits = "".join(letter for letter in word if letter.isdigit())
            most = widths.get(digits, {A: 2, B: 3}[kind])
            front, kinds = i32(0), (A,)
            if word.startswith("store"):
                front, kinds = front + ((kind + ".const", 1),), (A, kind)
            behind = (("drop",),) if word.startswith("load") else ()
            for exponent in range(32):
                body = front + ((name, exponent, 0),) + behind
                with self.subTest(body):
                    self.faulty("unknown memory", len(front), kinds, body, memories=())
                    if exponent <= most:
                        self.valid(body)
                        self.faulty("kind mismatch", 0, (), ((name, exponent, 0),))
                    else:
                        self.faulty("alignment too large", len(front), kinds, body)
                        self.faulty("alignment too large", 0, (), ((name, exponent, 0),))

    def test_kinds(self):
        self.faulty("kind mismatch", 1, (B,), i64(1) + (("i32.load", 0, 0), ("drop",)))
        self.faulty("kind mismatch", 2, (A, A), i32(1, 1) + (("i64.store8", 0, 0),))
        self.faulty("kind mismatch", 2, (B, A), i64(1) + i32(1) + (("i32.store8", 0, 0),))
        self.faulty("kind mismatch", 2, (A, B), i32(1) + i64(1) + (("i32.store", 0, 0),))


class Kinds(Code):
    def test_straight_instructions(self):
        for body, kinds in (
                ((("drop",),), ()), (i32(1) + (("i32.add",),), (A,)), (i64(1, 1) + (("i32.add",),), (B, B)),
                (i64(1) + i32(1) + (("i64.shl",),), (B, A)), (i32(1) + (("select",),), (A,)),
                (i32(1, 1) + (("select",),), (A, A)), (i32(1, 1) + i64(1) + (("select",),), (A, A, B)),
                (i32(1) + i64(1) + i32(1) + (("select",),), (A, B, A)), (i64(1) + (("local.set", 0),), (B,)),
                ((("local.tee", 0),), ()), (i64(1) + (("global.set", 0),), (B,)), ((("global.set", 2),), ()),
                (i64(1) + i32(1) + (("call", 0),), (B, A)), (i32(1) + (("call", 0),), (A,)),
                (i64(1) + (("call_indirect", 0, 0),), (B,)), (i32(0) + (("call_indirect", 1, 1),), (A,)),
                (i64(1) + (("memory.grow",),), (B,)), (i32(1, 1) + (("memory.copy",),), (A, A)),
                (i64(1) + i32(1, 1) + (("memory.fill",),), (B, A, A)),
                (i32(1) + (("throw", 0),), (A,)), ((("throw", 2),), ()), ((("br_if", 0),), ()),
                (i64(1) + (("br_table", (), 0),), (B,))):
            with self.subTest(body):
                self.faulty("kind mismatch", len(body) - 1, kinds, body + (("nop",),), own=(A,))

    def test_branches(self):
        self.faulty("kind mismatch", 1, (B,), i64(1) + (("br", 0),), signature=2)
        self.faulty("kind mismatch", 0, (), (("return",),), signature=2)
        self.faulty("kind mismatch", 2, (A, A), i32(1, 2) + (("br", 0),), signature=5)
        self.faulty("kind mismatch", 2, (A,), i32(1) + (("block", A, (("br", 0),)),), signature=2)

    def test_labels_of_a_table_with_different_numbers(self):
        body = (("block", None, i32(1, 2) + (("br_table", (0,), 1),)),) + i32(1)
        self.faulty("kind mismatch", 3, (A, A), body, signature=2)
        self.faulty("kind mismatch", 2, (), (("block", None, DEAD + (("br_table", (0, 1), 1),)),), dead=True,
                    signature=2)
        self.faulty("unknown label", 2, (), (("block", None, DEAD + (("br_table", (0, 1), 2),)),), dead=True,
                    signature=2)

    def test_ends(self):
        self.faulty("kind mismatch", 0, (), (), signature=2)
        self.faulty("kind mismatch", 1, (B,), i64(1), signature=2)
        self.faulty("kind mismatch", 2, (A, A), i32(1, 1), signature=2)
        self.faulty("kind mismatch", 1, (A,), i32(1))
        self.faulty("kind mismatch", 2, (A, B), i32(1) + i64(1), signature=2)

    def test_ends_of_bodies(self):
        for name in ("block", "loop"):
            self.faulty("kind mismatch", 2, (B,), i64(1) + ((name, A, ()), ("drop",)))
            self.faulty("kind mismatch", 3, (B, B), i64(1) + ((name, A, i64(1)), ("drop",)))
            self.faulty("kind mismatch", 3, (B, A), i64(1) + ((name, None, i32(1)), ("drop",)))
        self.faulty("kind mismatch", 2, (A,), (("try_table", None, (), i32(1)),))
        self.faulty("kind mismatch", 2, (), i32(1) + (("if", A, (), i32(1)), ("drop",)))
        self.faulty("kind mismatch", 4, (), i32(1) + (("if", A, i32(1), ()), ("drop",)))
        self.faulty("kind mismatch", 5, (B,), i32(1) + (("if", A, i32(1), i64(1)), ("drop",)))

    def test_values_below_a_block_cannot_be_used(self):
        self.faulty("kind mismatch", 2, (A,), i32(1) + (("block", None, (("drop",),)),))
        self.faulty("kind mismatch", 3, (A, A), i32(1, 1) + (("block", 6, (("i32.add",),)),))

    def test_deep_inside(self):
        body = (("drop",),)
        for _ in range(60):
            body = (("block", None, body),)
        self.faulty("kind mismatch", 60, (), body)
        self.valid(nested(60, "try_table"))


class Blocks(Code):
    """The order in which a block is checked."""

    def test_shape_first(self):
        self.faulty("unknown signature", 1, (B,), i64(1) + (("if", 9, (("drop",),), ()),))
        self.faulty("unknown signature", 0, (), (("try_table", 9, ((9, 9),), ()),))

    def test_the_condition_before_the_parameters(self):
        self.faulty("kind mismatch", 1, (A,), i32(1) + (("if", 6, (("drop",),), (("drop",),)),))
        self.faulty("kind mismatch", 2, (A, B), i32(1) + i64(1) + (("if", 4, (("drop",),), (("drop",),)),))
        self.valid(i64(1) + i32(1) + (("if", 4, (("drop",),), (("drop",),)),))

    def test_parameters_before_catches(self):
        self.faulty("kind mismatch", 1, (B,), i64(1) + (("try_table", 6, ((9, 9),), ()),))
        self.faulty("unknown label", 1, (A,), i32(1) + (("try_table", 6, ((9, 9),), ()),))

    def test_the_label_before_the_tag(self):
        self.faulty("unknown tag", 1, (A,), i32(1) + (("try_table", 6, ((9, 0),), (("local.get", 9),)),))

    def test_catches_before_bodies(self):
        self.faulty("kind mismatch", 0, (), (("try_table", None, ((0, 0),), (("local.get", 9),)),))
        self.faulty("unknown local", 1, (), (("try_table", None, ((1, 0),), (("local.get", 9),)),))

    def test_catches_in_their_order(self):
        self.faulty("kind mismatch", 0, (), (("try_table", None, ((1, 0), (0, 0), (None, 9)), ()),))
        self.faulty("unknown label", 0, (), (("try_table", None, ((1, 0), (None, 9), (0, 0)), ()),))

    def test_kinds_that_catches_take(self):
        self.valid((("block", B, (("try_table", None, ((0, 0), (None, 1)), ()),) + i64(1)), ("drop",)))
        self.faulty("kind mismatch", 1, (), (("block", A, (("try_table", None, ((0, 0),), ()),) + i32(1)), ("drop",)))
        self.faulty("kind mismatch", 1, (), (("block", A, (("try_table", None, ((None, 0),), ()),) + i32(1)),
                                             ("drop",)))
        self.faulty("kind mismatch", 1, (), (("block", None, (("try_table", None, ((2, 0),), ()),)),))

    def test_bodies_in_their_order(self):
        body = i32(1) + (("if", None, (("drop",),), (("local.get", 9),)),)
        self.faulty("kind mismatch", 2, (), body)
        body = i32(1) + (("if", None, (("nop",),), (("local.get", 9),)),)
        self.faulty("unknown local", 4, (), body)

    def test_faults_of_the_block_itself_behind_others(self):
        body = (("block", None, (("nop",),)), ("block", 6, (("drop",),)))
        self.faulty("kind mismatch", 3, (), body)


class Dead(Code):
    """Code behind instructions that make a body loose."""

    LOOSENING = ((("br", 0),), (("return",),), (("throw", 1),), DEAD, i32(1) + (("br_table", (0,), 0),))

    def test_unknown_kinds(self):
        for front in self.LOOSENING:
            with self.subTest(front):
                at = len(front)
                self.valid(front + (("i32.add",), ("drop",), ("select",), ("drop",), ("drop",)))
                self.valid(front + i32(1) + (("i32.eqz",), ("drop",)))
                self.faulty("kind mismatch", at + 1, (B,), front + i64(1) + (("i32.eqz",),), dead=True)
                self.faulty("kind mismatch", at + 1, (A,), front + i32(1) + (("call", 0),), dead=True)
                self.faulty("kind mismatch", at + 1, (A,), front + i32(1), dead=True)
                self.faulty("unknown function", at, (), front + (("call", 9),), dead=True)

    def test_select_of_unknown_kinds(self):
        self.valid(DEAD + (("select",), ("i64.eqz",), ("drop",)))
        self.valid(DEAD + (("select",), ("i32.eqz",), ("drop",)))
        self.faulty("kind mismatch", 4, (B,), DEAD + i64(1) + i32(1) + (("select",), ("i32.eqz",)), dead=True)
        self.faulty("kind mismatch", 4, (A, B, A), DEAD + i32(1) + i64(1) + i32(1) + (("select",),), dead=True)
        self.faulty("kind mismatch", 2, (None,), DEAD + (("select",),), dead=True)

    def test_blocks_at_dead_places(self):
        for name in ("block", "loop"):
            self.faulty("kind mismatch", 2, (), DEAD + ((name, None, (("drop",),)),), dead=True)
            self.faulty("kind mismatch", 2, (), DEAD + ((name, A, ()), ("drop",)), dead=True)
            self.valid(DEAD + ((name, 6, (("drop",),)),))
            self.faulty("kind mismatch", 3, (), DEAD + ((name, 6, (("drop",), ("drop",))),), dead=True)
            self.faulty("kind mismatch", 2, (B,), DEAD + i64(1) + ((name, 6, (("drop",),)),), dead=True)
        self.faulty("kind mismatch", 2, (B,), DEAD + i64(1) + (("if", None, (), ()),), dead=True)
        self.valid(DEAD + (("if", 6, (("drop",),), (("drop",),)),))
        self.faulty("kind mismatch", 4, (), DEAD + (("if", None, (("nop",),), (("drop",),)),), dead=True)
        self.valid(DEAD + (("try_table", 6, ((1, 0),), (("drop",),)),))

    def test_loose_only_up_to_the_end_of_the_body(self):
        self.faulty("kind mismatch", 3, (), (("block", None, DEAD), ("drop",)))
        self.faulty("kind mismatch", 5, (), i32(1) + (("if", None, DEAD, (("nop",), ("drop",))),))
        self.faulty("kind mismatch", 3, (A,), (("block", A, DEAD), ("i64.eqz",), ("drop",)))

    def test_values_below_the_block(self):
        self.faulty("kind mismatch", 4, (B, B), i64(1) + (("block", None, DEAD + i64(1) + (("i32.eqz",),)), ("drop",)),
                    dead=True)
        self.valid(i64(1) + (("block", None, DEAD + (("i32.eqz",), ("drop",))), ("drop",)))

    def test_results_of_loose_bodies(self):
        self.valid(DEAD, signature=5)
        self.valid(DEAD + i64(1), signature=5)
        self.valid(DEAD + i32(1) + i64(1), signature=5)
        self.faulty("kind mismatch", 2, (A,), DEAD + i32(1), dead=True, signature=5)
        self.faulty("kind mismatch", 4, (A, A, B), DEAD + i32(1, 1) + i64(1), dead=True, signature=5)


class Counting(unittest.TestCase):
    def test_the_first_function_with_a_fault(self):
        bad = (0, (), (("drop",),))
        for at in range(3):
            functions = [GOOD] * at + [bad, (0, (), (("local.get", 0),))]
            self.assertEqual(check(module_of(*functions)), ("code", at, "kind mismatch", 0, ((), False)))

    def test_imported_functions_do_not_count(self):
        imports = IMPORTS + (("m", "f", "func", 0),) * 3
        module = module_of(GOOD, (0, (), i32(1)), imports=imports)
        self.assertEqual(check(module), ("code", 1, "kind mismatch", 1, ((A,), False)))

    def test_code_can_call_each_function(self):
        calls = (0, (), (("call", 1), ("call", 2)))
        self.assertIsNone(check(module_of(calls, GOOD)))
        self.assertEqual(check(module_of(calls))[:4], ("code", 0, "unknown function", 1))


if __name__ == "__main__":
    unittest.main()

import copy
import unittest

from wasmhost.check.modules import check
from wasmhost.modules import Module

A, B = "i32", "i64"

SIGNATURES = (
    ((), ()),               # 0
    ((A,), (A,)),           # 1
    ((), (A,)),             # 2
    ((B,), ()),             # 3
)

IMPORTS = (
    ("m", "f", "func", 1),
    ("m", "t", "table", (1, None)),
    ("m", "g", "global", (A, False)),
    ("m", "h", "global", (B, True)),
    ("m", "i", "global", (B, False)),
    ("m", "x", "tag", 3),
)

MOST = 4294967295


def parts(**changes):
    """The parts of a valid module in which each part has something, with these changes."""
    given = {
        "signatures": SIGNATURES,
        "imports": IMPORTS,
        "functions": ((1, (), (("local.get", 0),)), (0, (B, A), (("nop",),))),
        "tables": ((0, 0), (3, None)),
        "memories": ((0, 65536),),
        "tags": (0, 3),
        "variables": ((A, True, ("i32.const", -1)), (B, False, ("i64.const", 7)), (A, False, ("global.get", 0)),
                      (B, True, ("global.get", 2))),
        "exports": (("", "func", 0), ("f", "func", 2), ("t", "table", 2), ("m", "memory", 0), ("g", "global", 6),
                    ("x", "tag", 2), ("again", "func", 0)),
        "start": 2,
        "table_segments": ((0, ("i32.const", 0), (0, 1, 2)), (2, ("global.get", 0), ())),
        "memory_segments": ((0, ("global.get", 0), (1, 255)), (0, ("i32.const", -1), ())),
    }
    given.update(changes)
    return given


def check_with(**changes):
    return check(Module(**parts(**changes)))


class Faults(unittest.TestCase):
    def fault(self, part, index, reason, **changes):
        self.assertEqual(check_with(**changes), (part, index, reason, None, None))

    def valid(self, **changes):
        self.assertIsNone(check_with(**changes))


class Valid(Faults):
    def test_a_module_with_every_part(self):
        self.valid()

    def test_an_empty_module(self):
        self.assertIsNone(check(Module()))

    def test_each_part_alone(self):
        self.assertIsNone(check(Module(signatures=SIGNATURES)))
        self.assertIsNone(check(Module(tables=((1, 1),))))
        self.assertIsNone(check(Module(memories=((1, 1),))))
        self.assertIsNone(check(Module(variables=((A, False, ("i32.const", 1)),))))

    def test_the_module_stays(self):
        module = Module(**parts())
        before = copy.deepcopy(vars(module))
        check(module)
        self.assertEqual(vars(module), before)

    def test_the_fault_is_a_tuple(self):
        self.assertIs(type(check_with(functions=((9, (), ()),))), tuple)


class Imports(Faults):
    def imported(self, *rows):
        """The imports, these ones last."""
        return {"imports": IMPORTS + tuple(("", "n", sort, what) for sort, what in rows)}

    def test_unknown_signature(self):
        for sort in ("func", "tag"):
            for index in (4, 5, MOST):
                self.fault("import", 6, "unknown signature", **self.imported((sort, index)))
        self.fault("import", 7, "unknown signature", **self.imported(("func", 2), ("func", 4)))
        self.assertEqual(check(Module(imports=(("m", "f", "func", 0),)))[:3], ("import", 0, "unknown signature"))

    def test_tag_with_results(self):
        for index in (1, 2):
            self.fault("import", 6, "tag with results", **self.imported(("tag", index)))
        self.fault("import", 8, "tag with results", **self.imported(("tag", 0), ("tag", 3), ("tag", 1)))

    def test_size_of_a_table(self):
        for limit in ((1, 0), (5, 4), (MOST, MOST - 1)):
            self.fault("import", 6, "size out of range", **self.imported(("table", limit)))
        for limit in ((0, 0), (MOST, MOST), (MOST, None), (65537, 65538), (0, MOST)):
            self.valid(**self.imported(("table", limit)))

    def test_size_of_a_memory(self):
        for limit in ((1, 0), (65537, None), (0, 65537), (65537, 65537), (MOST, MOST), (65537, 65536), (65536, 65535)):
            self.fault("import", 6, "size out of range", memories=(), **self.imported(("memory", limit)))
        for limit in ((0, 0), (65536, 65536), (65536, None), (0, 65536)):
            self.valid(memories=(), **self.imported(("memory", limit)))

    def test_globals_have_no_faults(self):
        self.valid(**self.imported(("global", (A, True)), ("global", (B, False))))

    def test_the_first_one_wins(self):
        self.fault("import", 6, "tag with results", **self.imported(("tag", 1), ("func", 9)))
        self.fault("import", 6, "unknown signature", **self.imported(("func", 9), ("tag", 1)))


class OwnItems(Faults):
    def test_functions(self):
        for index in (4, 5, MOST):
            self.fault("function", 0, "unknown signature", functions=((index, (), ()),))
            self.fault("function", 2, "unknown signature", functions=parts()["functions"] + ((index, (A,), ()),))

    def test_tables(self):
        self.fault("table", 0, "size out of range", tables=((1, 0), (2, 1)))
        self.fault("table", 2, "size out of range", tables=((1, 1), (2, None), (MOST, 0)))
        self.valid(tables=((0, 0), (65537, 65538), (MOST, MOST)))

    def test_memories(self):
        for limit in ((1, 0), (65537, None), (0, 65537), (65537, 65537), (65537, 65536), (MOST, MOST)):
            self.fault("memory", 0, "size out of range", memories=(limit,))
            self.fault("memory", 1, "size out of range", memories=((1, 1), limit))
        for limit in ((0, 0), (65536, 65536), (65536, None), (0, 65536)):
            self.valid(memories=(limit,))

    def test_multiple_memories(self):
        memory = ("m", "m", "memory", (1, None))
        self.fault("memory", 1, "multiple memories", memories=((1, 1), (1, 1)))
        self.fault("memory", 1, "multiple memories", memories=((1, 1),) * 5)
        self.fault("memory", 1, "multiple memories", imports=IMPORTS + (memory,))
        self.fault("memory", 1, "multiple memories", imports=IMPORTS + (memory, memory), memories=())
        self.fault("memory", 1, "multiple memories", imports=(memory,) + IMPORTS + (memory,), memories=((1, 1),))
        self.valid(imports=(memory,) + IMPORTS, memories=())

    def test_sizes_come_before_the_number_of_memories(self):
        self.fault("memory", 2, "size out of range", memories=((1, 1), (1, 1), (2, 1)))
        self.fault("import", 6, "size out of range", imports=IMPORTS + (("m", "m", "memory", (2, 1)),))

    def test_tags(self):
        for index in (4, MOST):
            self.fault("tag", 0, "unknown signature", tags=(index,))
            self.fault("tag", 2, "unknown signature", tags=(0, 3, index))
        for index in (1, 2):
            self.fault("tag", 1, "tag with results", tags=(0, index, 9))


class Constants(Faults):
    def faults_in(self, kind, wrong, at, change):
        """Checks each fault of a constant of this kind. `change` makes the changes for a constant."""
        part, index = at
        imported = {A: 0, B: 2}
        for constant, reason in (
                (("global.get", 3), "unknown global"), (("global.get", 4), "unknown global"),
                (("global.get", MOST), "unknown global"),
                (("global.get", 1), "constant expression required"),
                (("global.get", imported[wrong]), "kind mismatch"), ((wrong + ".const", 0), "kind mismatch")):
            with self.subTest(constant):
                self.fault(part, index, reason, **change(constant))
        for constant in ((kind + ".const", 0), ("global.get", imported[kind])):
            self.valid(**change(constant))

    def test_globals(self):
        first = (A, True, ("i32.const", 0))
        for kind, wrong in ((A, B), (B, A)):
            for mutable in (True, False):
                self.faults_in(kind, wrong, ("global", 0), lambda constant: {
                    "variables": ((kind, mutable, constant),) + parts()["variables"]})
                self.faults_in(kind, wrong, ("global", 5), lambda constant: {
                    "variables": (first,) * 5 + ((kind, mutable, constant), first)})

    def test_segments(self):
        self.faults_in(A, B, ("table segment", 0), lambda constant: {"table_segments": ((0, constant, ()),)})
        self.faults_in(A, B, ("table segment", 1), lambda constant: {
            "table_segments": ((1, ("i32.const", 9), (0,)), (1, constant, (1, 2)))})
        self.faults_in(A, B, ("memory segment", 0), lambda constant: {"memory_segments": ((0, constant, ()),)})
        self.faults_in(A, B, ("memory segment", 1), lambda constant: {
            "memory_segments": ((0, ("i32.const", 9), (0,)), (0, constant, (1, 2)))})

    def test_the_order_of_the_faults(self):
        # The global 1 is mutable and of the wrong kind; an own global is unknown, whatever else it is.
        self.fault("global", 0, "constant expression required", variables=((A, True, ("global.get", 1)),))
        variables = ((B, True, ("i64.const", 1)), (A, True, ("global.get", 3)))
        self.fault("global", 1, "unknown global", variables=variables)
        self.fault("global", 0, "unknown global", variables=((A, True, ("global.get", 3)),))
        self.fault("global", 0, "unknown global", variables=((A, True, ("global.get", 0)),), imports=(),
                   exports=(), start=None, functions=())


class Exports(Faults):
    def test_unknown_items(self):
        for sort, word, count in (("func", "function", 3), ("table", "table", 3), ("memory", "memory", 1),
                                  ("global", "global", 7), ("tag", "tag", 3)):
            for index in (count, count + 1, MOST):
                exports = (("a", sort, count - 1), ("b", sort, index))
                self.fault("export", 1, "unknown " + word, exports=exports)
            self.valid(exports=(("a", sort, count - 1), ("b", sort, 0)))

    def test_unknown_items_without_any(self):
        for sort, word in (("func", "function"), ("table", "table"), ("memory", "memory"), ("global", "global"),
                           ("tag", "tag")):
            self.assertEqual(check(Module(exports=(("", sort, 0),))), ("export", 0, "unknown " + word, None, None))

    def test_duplicate_names(self):
        self.fault("export", 2, "duplicate export name", exports=(("a", "func", 0), ("b", "func", 0), ("a", "tag", 0)))
        self.fault("export", 1, "duplicate export name", exports=(("", "func", 0), ("", "func", 0), ("", "tag", 9)))
        self.valid(exports=(("a", "func", 0), ("A", "func", 0), ("a ", "func", 0), ("", "func", 0)))

    def test_unknown_items_come_before_duplicate_names(self):
        self.fault("export", 1, "unknown tag", exports=(("a", "func", 0), ("a", "tag", 9)))
        self.fault("export", 1, "duplicate export name", exports=(("a", "func", 0), ("a", "func", 1), ("b", "tag", 9)))


class Start(Faults):
    def test_unknown_function(self):
        for func in (3, 4, MOST):
            self.fault("start", 0, "unknown function", start=func)

    def test_parameters_or_results(self):
        functions = tuple((index, (), (("unreachable",),)) for index in (0, 1, 2, 3))
        for func in (2, 3, 4):
            self.fault("start", 0, "start function", start=func, functions=functions)
        self.valid(start=1, functions=functions)

    def test_an_imported_function(self):
        self.fault("start", 0, "start function", start=0)
        self.valid(start=0, imports=(("m", "f", "func", 0),) + IMPORTS[1:])


class Segments(Faults):
    def test_unknown_table(self):
        for table in (3, MOST):
            self.fault("table segment", 0, "unknown table", table_segments=((table, ("i64.const", 0), (9,)),))
            self.fault("table segment", 1, "unknown table",
                       table_segments=((2, ("i32.const", 0), ()), (table, ("i32.const", 0), ())))

    def test_unknown_function(self):
        for functions in ((3,), (0, 1, 2, 3), (MOST, 0)):
            self.fault("table segment", 0, "unknown function", table_segments=((0, ("i32.const", 0), functions),))
        self.fault("table segment", 0, "kind mismatch", table_segments=((0, ("i64.const", 0), (3,)),))

    def test_unknown_memory(self):
        for memory in (1, MOST):
            self.fault("memory segment", 0, "unknown memory", memory_segments=((memory, ("i64.const", 0), ()),))
            self.fault("memory segment", 1, "unknown memory",
                       memory_segments=((0, ("i32.const", 0), (1,)), (memory, ("i32.const", 0), ())))
        self.fault("memory segment", 0, "unknown memory", memories=(), exports=())


class Order(Faults):
    """Each part has a fault, and then those in front are put right, one after another."""

    def test_the_earlier_part_wins(self):
        broken = [
            ("imports", IMPORTS + (("m", "f", "func", 9),), ("import", 6, "unknown signature")),
            ("functions", ((1, (), ()), (9, (), ())), ("function", 1, "unknown signature")),
            ("tables", ((1, 0),), ("table", 0, "size out of range")),
            ("memories", ((1, 0), (1, 0)), ("memory", 0, "size out of range")),
            ("tags", (9,), ("tag", 0, "unknown signature")),
            ("variables", ((A, True, ("i64.const", 0)),), ("global", 0, "kind mismatch")),
            ("exports", (("a", "tag", 99),), ("export", 0, "unknown tag")),
            ("start", 99, ("start", 0, "unknown function")),
            ("table_segments", ((99, ("i32.const", 0), ()),), ("table segment", 0, "unknown table")),
            ("memory_segments", ((99, ("i32.const", 0), ()),), ("memory segment", 0, "unknown memory")),
        ]
        for at, (_, _, expected) in enumerate(broken):
            changes = {name: value for name, value, _ in broken[at:]}
            if at > 1:
                changes["functions"] = ((1, (), ()), (0, (), ()))
            self.fault(*expected, **changes)

    def test_code_is_last(self):
        functions = ((1, (), (("local.get", 0),)), (0, (), (("drop",),)))
        self.assertEqual(check_with(functions=functions), ("code", 1, "kind mismatch", 0, ((), False)))
        self.fault("memory segment", 1, "kind mismatch", functions=functions,
                   memory_segments=((0, ("i32.const", 0), ()), (0, ("i64.const", 0), ())))

    def test_many_memories_come_before_tags(self):
        self.fault("memory", 1, "multiple memories", memories=((1, 1), (1, 1)), tags=(9,))


if __name__ == "__main__":
    unittest.main()

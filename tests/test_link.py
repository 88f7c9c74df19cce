import copy
import unittest

from wasmhost.check.modules import check
from wasmhost.errors import ImportMissing, ImportUnfit, LimitReached
from wasmhost.flat import flatten
from wasmhost.link import add_host, item_fits, link, resolve
from wasmhost.modules import Module
from wasmhost.store import Global, Memory, Store, Table
from wasmhost.text.modules import parse

A, B = "i32", "i64"


def picture(store):
    """What a store has, as plain values."""
    return copy.deepcopy((
        store.functions, [vars(row) for row in store.tables], [vars(row) for row in store.memories],
        [vars(row) for row in store.variables], store.tags,
        [(row.functions, row.tables, row.memories, row.variables, row.tags, row.codes) for row in store.instances]))


class Hosts(unittest.TestCase):
    def full(self, store, what, params, results):
        before = picture(store)
        with self.assertRaises(LimitReached) as caught:
            add_host(store, params, results)
        self.assertEqual((caught.exception.what, picture(store)), (what, before))

    def test_numbers(self):
        store = Store()
        self.assertEqual(add_host(store, (A,), (B, A)), 0)
        link(store, parse("(module (func) (func (param i32)))"), ())
        self.assertEqual(add_host(store, (), ()), 3)
        self.assertEqual(add_host(store, (A,), (B, A)), 4)
        self.assertEqual(store.functions, [
            ("host", 0, ((A,), (B, A))), ("code", 0, 0, ((), ())), ("code", 0, 1, ((A,), ())), ("host", 1, ((), ())),
            ("host", 2, ((A,), (B, A)))])

    def test_sixteen_kinds(self):
        store = Store()
        add_host(store, (A,) * 16, (B,) * 16)
        self.assertEqual(store.functions, [("host", 0, ((A,) * 16, (B,) * 16))])
        for params, results in (((A,) * 17, ()), ((), (B,) * 17), ((A,) * 17, (B,) * 17), ((A,) * 16, (B,) * 17)):
            self.full(store, "signature", params, results)

    def test_twenty_host_functions(self):
        store = Store()
        for number in range(20):
            self.assertEqual(add_host(store, (A,) * (number % 3), ()), number + (number >= 7))
            if number == 6:
                link(store, parse("(module (func))"), ())
        self.assertEqual([row[1] for row in store.functions if row[0] == "host"], list(range(20)))
        self.full(store, "host functions", (), ())
        self.full(store, "host functions", (A,) * 16, (A,) * 16)
        self.full(store, "signature", (A,) * 17, ())
        self.full(store, "signature", (), (A,) * 17)

    def test_functions_of_instances_do_not_count(self):
        store = Store()
        link(store, Module(signatures=(((), ()),), functions=((0, (), ()),) * 30), ())
        self.assertEqual(add_host(store, (), ()), 30)


SIGNATURES = (((), ()), ((A,), (B,)), ((A,), ()), ((), (B,)), ((B,), (A,)))


class Fits(unittest.TestCase):
    """One rule of point 508 after the other, with item_fits and with resolve."""

    MODULE = Module(signatures=SIGNATURES)

    def check(self, expected, store, kind, what, number=0):
        row = ("m", "n", kind, what)
        self.assertIs(item_fits(store, self.MODULE, row, number), expected, row)
        module = Module(signatures=SIGNATURES, imports=(row,))
        names = [("m", "n", kind, number)]
        if expected:
            self.assertEqual(resolve(store, names, module), (number,))
        else:
            with self.assertRaises(ImportUnfit) as caught:
                resolve(store, names, module)
            self.assertEqual(caught.exception.index, 0)

    def test_functions_and_tags(self):
        store = Store()
        for params, results in SIGNATURES:
            add_host(store, params, results)
        link(store, Module(signatures=SIGNATURES[::-1], functions=tuple((at, (A,), (("unreachable",),)) for at in range(5)),
                           tags=(4, 2)), ())
        for asked in range(5):
            for found in range(5):
                self.check(asked == found, store, "func", asked, found)
                self.check(asked == found, store, "func", asked, 9 - found)
        for asked in range(5):
            self.check(asked == 0, store, "tag", asked, 0)
            self.check(asked == 2, store, "tag", asked, 1)

    def test_globals(self):
        store = Store()
        heads = [(kind, mutable) for kind in (A, B) for mutable in (True, False)]
        store.variables.extend([Global(kind, mutable, 5) for kind, mutable in heads])
        for number, found in enumerate(heads):
            for asked in heads:
                self.check(asked == found, store, "global", asked, number)

    def test_sizes(self):
        store = Store()
        store.tables.extend([Table(3, 7), Table(7, 7), Table(0, 0), Table(256, 256)])
        store.memories.extend([Memory(3, 7), Memory(7, 7), Memory(0, 0), Memory(16, 16)])
        for kind in ("table", "memory"):
            for least, most, expected in (
                    (0, None, True), (3, None, True), (4, None, False), (4294967295, None, False), (3, 7, True), (3, 8, True),
                    (3, 6, False), (4, 7, False), (0, 4294967295, True), (3, 3, False), (0, 0, False), (2, 100, True)):
                self.check(expected, store, kind, (least, most), 0)
            for least, most, expected in ((7, 7, True), (8, None, False), (8, 8, False), (7, None, True), (6, 6, False)):
                self.check(expected, store, kind, (least, most), 1)
            for least, most, expected in ((0, 0, True), (1, None, False), (1, 1, False), (0, 5, True)):
                self.check(expected, store, kind, (least, most), 2)
        self.check(True, store, "table", (256, 256), 3)
        self.check(False, store, "table", (256, 255), 3)
        self.check(True, store, "memory", (16, 16), 3)
        self.check(False, store, "memory", (17, None), 3)

    def test_tables_and_memories_without_a_greatest_size(self):
        # Their greatest sizes are 256 and 16.
        store = Store()
        link(store, parse("(module (table 1 funcref) (memory 1))"), ())
        self.check(False, store, "table", (0, 255))
        self.check(True, store, "table", (0, 256))
        self.check(False, store, "memory", (0, 15))
        self.check(True, store, "memory", (0, 16))

    def test_the_present_size_counts(self):
        store = Store()
        link(store, parse("(module (memory 1 5))"), ())
        self.check(False, store, "memory", (2, None))
        store.memories[0].pages = 2
        self.check(True, store, "memory", (2, None))


class Resolving(unittest.TestCase):
    def setUp(self):
        self.store = Store()
        for count in range(4):
            add_host(self.store, (A,) * count, ())
        link(self.store, parse("(module (tag) (tag (param i32)) (table 2 funcref) (memory 1) (global i32 (i32.const 1)))"), ())
        self.names = [("h", "f" + str(count), "func", count) for count in range(4)] + [
            ("h", "t", "table", 0), ("h", "m", "memory", 0), ("h", "g", "global", 0), ("h", "x", "tag", 0), ("h", "y", "tag", 1)]

    def resolved(self, imports):
        return resolve(self.store, self.names, parse("(module " + imports + ")"))

    def fault(self, error, index, imports):
        before = (picture(self.store), list(self.names))
        with self.assertRaises(error) as caught:
            self.resolved(imports)
        self.assertEqual(caught.exception.index, index, imports)
        self.assertEqual((picture(self.store), self.names), before)

    def test_the_numbers_in_order(self):
        self.assertEqual(self.resolved(""), ())
        self.assertEqual(self.resolved(
            '(import "h" "y" (tag (param i32))) (import "h" "f2" (func (param i32 i32))) (import "h" "m" (memory 1))'
            ' (import "h" "f0" (func)) (import "h" "t" (table 0 funcref)) (import "h" "x" (tag)) (import "h" "g" (global i32))'
            ' (import "h" "f2" (func (param i32 i32)))'), (1, 2, 0, 0, 0, 0, 0, 2))

    def test_another_kind(self):
        for name, imports in (("f0", "(tag)"), ("x", "(func)"), ("t", "(memory 0)"), ("m", "(table 0 funcref)"), ("g", "(func)")):
            self.fault(ImportUnfit, 0, '(import "h" "' + name + '" ' + imports + ")")

    def test_missing(self):
        for module, name in (("h", "f9"), ("g", "f0"), ("", "f0"), ("h", ""), ("f0", "h")):
            self.fault(ImportMissing, 0, '(import "' + module + '" "' + name + '" (func))')
        self.fault(ImportMissing, 1, '(import "h" "f0" (func)) (import "h" "z" (func)) (import "h" "a" (func))')

    def test_missing_comes_before_unfit(self):
        unfit = '(import "h" "f1" (func))'
        missing = '(import "h" "z" (func))'
        fine = '(import "h" "f0" (func))'
        self.fault(ImportMissing, 1, unfit + missing)
        self.fault(ImportMissing, 2, unfit + fine + missing + unfit + missing)
        self.fault(ImportMissing, 0, missing + unfit)
        self.fault(ImportUnfit, 1, fine + unfit + fine + unfit)
        self.fault(ImportUnfit, 2, fine + fine + unfit + unfit)

    def test_the_arguments_stay(self):
        before = (picture(self.store), list(self.names))
        self.resolved('(import "h" "f0" (func)) (import "h" "t" (table 0 funcref))')
        self.assertEqual((picture(self.store), self.names), before)


class Linking(unittest.TestCase):
    def link(self, store, text, found=()):
        module = parse(text) if isinstance(text, str) else text
        self.assertIsNone(check(module))
        before = copy.deepcopy(vars(module))
        result = link(store, module, found)
        self.assertEqual(vars(module), before)
        self.assertIs(store.instances[-1].module, module)
        return result

    def test_an_empty_module(self):
        store = Store()
        self.assertIsNone(self.link(store, "(module)"))
        self.assertEqual(picture(store), ([], [], [], [], [], [((), (), (), (), (), ())]))

    def test_numbers_behind_other_instances(self):
        store = Store()
        first = """(module (func (param i32)) (func) (table 1 funcref) (table 2 funcref) (memory 1) (tag) (global i32 (i32.const 4))
                   (global (mut i64) (i64.const -5)))"""
        self.link(store, first)
        add_host(store, (B,), ())
        second = """(module (import "" "h" (func (param i64))) (import "" "y" (tag)) (import "" "b" (func)) (import "" "t" (table 0 funcref))
                    (import "" "g" (global (mut i64))) (import "" "m" (memory 0)) (func (result i32) i32.const 1)
                    (table 3 5 funcref) (tag (param i32)) (global i64 (i64.const 8)) (func (type 0)))"""
        self.assertIsNone(self.link(store, second, (2, 0, 1, 1, 1, 0)))
        module = store.instances[1].module
        self.assertEqual(picture(store), (
            [("code", 0, 0, ((A,), ())), ("code", 0, 1, ((), ())), ("host", 0, ((B,), ())), ("code", 1, 0, ((), (A,))),
             ("code", 1, 1, ((B,), ()))],
            [{"entries": [None], "most": 256}, {"entries": [None] * 2, "most": 256}, {"entries": [None] * 3, "most": 5}],
            [{"pages": 1, "most": 16, "cells": {}}],
            [{"kind": A, "mutable": False, "value": 4}, {"kind": B, "mutable": True, "value": -5},
             {"kind": B, "mutable": False, "value": 8}],
            [((), ()), ((A,), ())],
            [((0, 1), (0, 1), (0,), (0, 1), (0,), store.instances[0].codes),
             ((2, 1, 3, 4), (1, 2), (0,), (1, 2), (0, 1), (flatten(module, 2), flatten(module, 3)))]))
        self.assertEqual(store.instances[0].codes, (((("end",), (-1,), ()),),) * 2)

    def test_the_same_module_twice(self):
        store = Store()
        for number in range(3):
            self.link(store, "(module (func) (table 1 funcref) (memory 1) (tag) (global i32 (i32.const 4)))")
            row = store.instances[number]
            self.assertEqual((row.functions, row.tables, row.memories, row.variables, row.tags), ((number,),) * 5)
            self.assertEqual(store.functions[number], ("code", number, 0, ((), ())))
        self.assertIsNot(store.memories[0].cells, store.memories[1].cells)

    def test_greatest_sizes(self):
        for least, most, expected in ((0, None, 256), (256, None, 256), (0, 0, 0), (0, 255, 255), (3, 256, 256), (3, 257, 256),
                                      (0, 4294967295, 256), (256, 256, 256), (7, 7, 7)):
            store = Store()
            self.link(store, Module(tables=((least, most),)))
            self.assertEqual(picture(store)[1], [{"entries": [None] * least, "most": expected}])
        for least, most, expected in ((0, None, 16), (16, None, 16), (0, 0, 0), (0, 15, 15), (3, 16, 16), (3, 17, 16), (0, 65536, 16),
                                      (16, 16, 16), (2, 2, 2)):
            store = Store()
            self.link(store, Module(memories=((least, most),)))
            self.assertEqual(picture(store)[2], [{"pages": least, "most": expected, "cells": {}}])

    def test_globals(self):
        store = Store()
        store.variables.extend([Global(A, False, 77), Global(B, False, -1)])
        text = """(module (import "" "a" (global i32)) (import "" "b" (global i64)) (global i32 (global.get 0)) (global (mut i64)
                  (global.get 1)) (global (mut i32) (i32.const -6)) (global i64 (i64.const 9223372036854775807)))"""
        self.link(store, text, (0, 1))
        self.assertEqual([(row.kind, row.mutable, row.value) for row in store.variables[2:]], [
            (A, False, 77), (B, True, -1), (A, True, -6), (B, False, 9223372036854775807)])
        self.assertEqual(store.instances[0].variables, (0, 1, 2, 3, 4, 5))
        # The value at this moment counts, and later changes do not.
        store.variables[0].value = -3
        self.link(store, text, (0, 1))
        self.assertEqual([row.value for row in store.variables[2:8]], [77, -1, -6, 9223372036854775807, -3, -1])
        store.variables[0].value = 1
        self.assertEqual(store.variables[6].value, -3)

    def test_imported_globals_in_another_order(self):
        store = Store()
        self.link(store, "(module (global i32 (i32.const 1)) (global (mut i32) (i32.const 2)) (global i32 (i32.const 3)))")
        store.variables[2].value = 30
        self.link(store, """(module (import "" "f" (func)) (import "" "c" (global i32)) (import "" "b" (global (mut i32)))
                            (import "" "a" (global i32)) (global i32 (global.get 0)) (global i32 (global.get 2)))""",
                  (add_host(store, (), ()), 2, 1, 0))
        self.assertEqual(store.instances[1].variables, (2, 1, 0, 3, 4))
        self.assertEqual([row.value for row in store.variables], [1, 2, 30, 30, 1])

    def test_the_start_function_is_not_called(self):
        store = Store()
        self.link(store, "(module (global $g (mut i32) (i32.const 1)) (func $f i32.const 2 global.set $g) (start $f))")
        self.assertEqual(store.variables[0].value, 1)


def i32(value):
    return ("i32.const", value)


class TableSegments(unittest.TestCase):
    """Links modules with a table of 4 entries and functions from 1 on in the store."""

    def entries(self, *segments, size=4):
        store = Store()
        add_host(store, (), ())
        module = Module(signatures=(((), ()),), imports=(("", "", "global", (A, False)), ("", "", "func", 0)), functions=((0, (), ()),) * 2,
                        tables=((size, None), (2, None)), table_segments=segments)
        self.assertIsNone(check(module))
        store.variables.append(Global(A, False, 2))
        reason = link(store, module, (0, 0))
        self.assertEqual(len(store.instances), 1)
        return reason, store.tables[0].entries

    def test_copies(self):
        self.assertEqual(self.entries((0, i32(0), (2, 0, 1))), (None, [2, 0, 1, None]))
        self.assertEqual(self.entries((0, i32(1), (2,))), (None, [None, 2, None, None]))
        self.assertEqual(self.entries((0, ("global.get", 0), (1, 1))), (None, [None, None, 1, 1]))

    def test_up_to_the_end_and_beyond(self):
        self.assertEqual(self.entries((0, i32(3), (1,))), (None, [None] * 3 + [1]))
        self.assertEqual(self.entries((0, i32(0), (1, 1, 2, 2))), (None, [1, 1, 2, 2]))
        for segment in ((0, i32(4), (1,)), (0, i32(0), (1,) * 5), (0, i32(3), (1, 1)), (0, ("global.get", 0), (1, 1, 1)), (0, i32(100), (1,))):
            self.assertEqual(self.entries(segment), ("undefined element", [None] * 4))

    def test_empty_ones(self):
        self.assertEqual(self.entries((0, i32(4), ())), (None, [None] * 4))
        self.assertEqual(self.entries((0, i32(5), ()), (0, i32(0), (1,))), ("undefined element", [None] * 4))
        self.assertEqual(self.entries((0, i32(0), ()), size=0), (None, []))
        self.assertEqual(self.entries((0, i32(1), ()), size=0), ("undefined element", []))

    def test_offsets_without_a_sign(self):
        for value in (-1, -2147483648, -4, 2147483647):
            self.assertEqual(self.entries((0, i32(value), (1,))), ("undefined element", [None] * 4))
            self.assertEqual(self.entries((0, i32(value), ())), ("undefined element", [None] * 4))

    def test_over_each_other(self):
        self.assertEqual(self.entries((0, i32(0), (1, 1, 1)), (0, i32(1), (2, 0)), (0, i32(3), (0,))), (None, [1, 2, 0, 0]))

    def test_the_first_that_does_not_fit(self):
        self.assertEqual(self.entries((0, i32(0), (1,)), (0, i32(3), (2, 2)), (0, i32(1), (2,))), ("undefined element", [1, None, None, None]))

    def test_the_second_table(self):
        store = Store()
        link(store, parse("(module (table 2 funcref))"), ())
        module = parse("""(module (import "" "t" (table 1 funcref)) (table 1 funcref) (func) (func) (elem (table 1) (i32.const 0) func 1)
                          (elem (i32.const 1) func 0))""")
        self.assertIsNone(link(store, module, (0,)))
        self.assertEqual([table.entries for table in store.tables], [[None, 0], [1]])
        self.assertIsNone(link(store, module, (0,)))
        self.assertEqual([table.entries for table in store.tables], [[None, 2], [1], [3]])
        self.assertEqual(len(store.instances), 3)


class MemorySegments(unittest.TestCase):
    def link(self, *segments, offset=0, tables=()):
        store = Store()
        store.variables.append(Global(A, False, offset))
        module = Module(signatures=(((), ()),), imports=(("", "", "global", (A, False)),), functions=((0, (), ()),), memories=((1, None),),
                        tables=((1, None),), table_segments=tables, memory_segments=segments)
        self.assertIsNone(check(module))
        reason = link(store, module, (0,))
        self.assertEqual(len(store.instances), 1)
        return reason, store.memories[0].cells

    def test_copies(self):
        self.assertEqual(self.link((0, i32(0), (1, 0, 255))), (None, {0: 1, 2: 255}))
        self.assertEqual(self.link((0, ("global.get", 0), (7, 8)), offset=100), (None, {100: 7, 101: 8}))

    def test_up_to_the_end_and_beyond(self):
        self.assertEqual(self.link((0, i32(65535), (9,))), (None, {65535: 9}))
        self.assertEqual(self.link((0, i32(65533), (9, 8, 7))), (None, {65533: 9, 65534: 8, 65535: 7}))
        for segment in ((0, i32(65536), (9,)), (0, i32(65535), (9, 9)), (0, i32(1000000), (9,))):
            self.assertEqual(self.link(segment), ("out of bounds memory access", {}))

    def test_empty_ones(self):
        self.assertEqual(self.link((0, i32(65536), ())), (None, {}))
        self.assertEqual(self.link((0, i32(65537), ()), (0, i32(0), (1,))), ("out of bounds memory access", {}))

    def test_offsets_without_a_sign(self):
        for value in (-1, -2147483648, -65536, 2147483647):
            for data in ((1,), ()):
                self.assertEqual(self.link((0, i32(value), data)), ("out of bounds memory access", {}))
                self.assertEqual(self.link((0, ("global.get", 0), data), offset=value), ("out of bounds memory access", {}))

    def test_over_each_other(self):
        self.assertEqual(self.link((0, i32(0), (1, 2, 3)), (0, i32(1), (0, 9))), (None, {0: 1, 2: 9}))

    def test_the_first_that_does_not_fit(self):
        found = self.link((0, i32(0), (1,)), (0, i32(65535), (2, 2)), (0, i32(5), (3,)))
        self.assertEqual(found, ("out of bounds memory access", {0: 1}))

    def test_tables_come_first(self):
        fine, bad = (0, i32(0), (0,)), (0, i32(1), (0,))
        self.assertEqual(self.link((0, i32(0), (1,)), tables=(bad,)), ("undefined element", {}))
        self.assertEqual(self.link((0, i32(0), (1,)), tables=(fine,)), (None, {0: 1}))
        self.assertEqual(self.link((0, i32(65536), (1,)), tables=(bad,)), ("undefined element", {}))

    def test_an_imported_memory(self):
        store = Store()
        link(store, parse("(module (memory 1))"), ())
        link(store, parse('(module (memory 1) (data (i32.const 1) "b"))'), ())
        module = parse('(module (import "" "m" (memory 1)) (data (i32.const 0) "a"))')
        self.assertIsNone(link(store, module, (1,)))
        self.assertEqual([memory.cells for memory in store.memories], [{}, {0: 97, 1: 98}])
        self.assertEqual(store.instances[2].memories, (1,))


if __name__ == "__main__":
    unittest.main()

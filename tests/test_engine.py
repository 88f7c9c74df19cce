"""The methods of engines, apart from debugging, saves and records: each error alone, and each with a later one due as well."""
import unittest

from engines import A, ASK, B, BEGIN, CATCH, FILL, FULL, HOST, HOSTS, TRAP, TWO, EngineCase, engine_with, full_engine, padded, wrong
from wasmhost.binary.modules import encode
from wasmhost.engine import Engine
from wasmhost.errors import BadValues, Busy, ImportMissing, ImportUnfit, Immutable, InvalidModule, LimitReached, NoSuchItem, NotAsked
from wasmhost.errors import OutOfRange
from wasmhost.modules import Module
from wasmhost.text.modules import parse

INVALID = Module(functions=((0, (), ()),))

REASONS = ("unreachable", "integer divide by zero", "integer overflow", "out of bounds memory access", "undefined element", "uninitialized element",
           "indirect call mismatch", "call stack exhausted")


def in_progress(engine):
    engine.call(TWO, ())
    engine.run(1)
    return engine


def asking(engine):
    engine.call(TWO, ())
    engine.run(100)
    assert engine.status()[0] == "asks"
    return engine


class New(unittest.TestCase):
    def test_a_new_engine(self):
        engine = Engine()
        self.assertEqual(engine.status(), ("finished", (), 0))
        self.assertEqual((engine.names(), engine.breaks(), engine.frames(), engine.fast_functions(), engine.recorded()), ([], [], [], [], None))
        self.assertEqual(engine.save(), [87, 65, 83, 1, 0, 0, 0, 0, 0, 0, 0, 1, 0, 0, 0, 0, 0, 139, 36, 28, 24])

    def test_the_example_of_part_5(self):
        engine = Engine()
        first = Module(memories=((1, None),), variables=(("i32", False, ("i32.const", 65535)),), exports=(("m", "memory", 0), ("at", "global", 0)))
        made = [engine.instantiate(first)]
        engine.publish(0, "a")
        second = Module(imports=(("a", "m", "memory", (1, None)), ("a", "at", "global", ("i32", False))),
                        memory_segments=((0, ("i32.const", 0), (120,)), (0, ("global.get", 0), (121, 122))))
        made.append(engine.instantiate(second))
        self.assertEqual((made, engine.names(), engine.read(0, 0, 2), engine.read(0, 65535, 1)), (
            [(0, None), (1, "out of bounds memory access")], [("a", "m", "memory", 0), ("a", "at", "global", 0)], [120, 0], [0]))


class Hosts(EngineCase):
    def test_numbers(self):
        engine = full_engine()
        self.assertEqual(engine.add_host((), ()), 8)
        self.assertEqual(engine.signature(8), ((), (), 0))

    def test_errors(self):
        engine = Engine()
        self.assertEqual(engine.add_host((A,) * 16, (B,) * 16), 0)
        self.assertEqual(engine.signature(0), ((A,) * 16, (B,) * 16, 0))
        too_long = ((A,) * 17, ()), ((), (B,) * 17)
        for signature in too_long:
            self.fault(engine, LimitReached, {"what": "signature"}, "add_host", *signature)
        for number in range(1, 20):
            self.assertEqual(engine.add_host((), ()), number)
        self.fault(engine, LimitReached, {"what": "host functions"}, "add_host", (), ())
        engine.call(0, (1,) * 16)
        self.fault(engine, Busy, {}, "add_host", (), ())
        for signature in too_long:
            self.fault(engine, LimitReached, {"what": "signature"}, "add_host", *signature)

    def test_busy(self):
        for engine in (in_progress(full_engine()), asking(full_engine())):
            self.fault(engine, Busy, {}, "add_host", (), ())
            self.fault(engine, LimitReached, {"what": "signature"}, "add_host", (A,) * 17, ())


class Names(EngineCase):
    def test_define(self):
        engine = full_engine()
        before = engine.names()
        for kind, index in (("func", 7), ("table", 0), ("memory", 0), ("global", 1), ("tag", 1)):
            self.assertIsNone(engine.define("d", kind, kind, index))
        engine.define("d", "table", "tag", 0)
        self.assertEqual(engine.names(), before + [("d", "func", "func", 7), ("d", "memory", "memory", 0), ("d", "global", "global", 1), ("d", "tag", "tag", 1),
                                                   ("d", "table", "tag", 0)])

    def test_errors_of_define(self):
        engine = full_engine()
        for kind, count in (("func", 8), ("table", 1), ("memory", 1), ("global", 2), ("tag", 2)):
            for index in wrong(count):
                self.fault(engine, NoSuchItem, {"kind": kind, "index": index}, "define", "d", "n", kind, index)
        while len(engine.names()) < 60:
            engine.define("m", str(len(engine.names())), "func", 0)
        self.fault(engine, LimitReached, {"what": "names"}, "define", "d", "n", "func", 0)
        self.fault(engine, NoSuchItem, {"kind": "func", "index": 8}, "define", "d", "n", "func", 8)
        engine.define("m", "30", "func", 1)
        self.assertEqual((len(engine.names()), engine.names()[-1]), (60, ("m", "30", "func", 1)))

    def test_while_a_run_is_in_progress(self):
        engine = asking(full_engine())
        engine.define("d", "n", "func", 0)
        engine.publish(0, "p")
        self.assertEqual(engine.names()[-1], ("p", "begin", "func", BEGIN))

    def test_publish(self):
        engine = full_engine()
        self.assertIsNone(engine.publish(0, ""))
        shown = [("t", "table", 0), ("m", "memory", 0), ("x", "tag", 0), ("y", "tag", 1), ("g", "global", 0), ("c", "global", 1), ("ask", "func", ASK), ("two", "func", TWO),
                 ("trap", "func", TRAP), ("catch", "func", CATCH), ("fill", "func", FILL), ("begin", "func", BEGIN)]
        self.assertEqual(engine.names()[-12:], [("",) + row for row in shown])

    def test_publish_again(self):
        engine = engine_with("(module (func) (func) (export \"a\" (func 1)) (export \"b\" (func 0)))")
        engine.define("i0", "a", "func", 0)
        engine.publish(0, "i0")
        self.assertEqual(engine.names(), [("i0", "a", "func", 1), ("i0", "b", "func", 0)])

    def test_errors_of_publish(self):
        engine = full_engine()
        for instance in wrong(1):
            self.fault(engine, NoSuchItem, {"kind": "instance", "index": instance}, "publish", instance, "p")
        while len(engine.names()) < 49:
            engine.define("m", str(len(engine.names())), "func", 0)
        self.fault(engine, LimitReached, {"what": "names"}, "publish", 0, "p")
        self.fault(engine, NoSuchItem, {"kind": "instance", "index": 1}, "publish", 1, "p")
        engine.publish(0, "i0")
        self.assertEqual(len(engine.names()), 49)

    def test_sixty_names(self):
        engine = full_engine()
        while len(engine.names()) < 48:
            engine.define("m", str(len(engine.names())), "func", 0)
        engine.publish(0, "p")
        self.assertEqual(len(engine.names()), 60)
        self.fault(engine, LimitReached, {"what": "names"}, "publish", 0, "q")

    def test_shown(self):
        engine = engine_with('(module (import "h" "0" (func)) (func) (table 1 funcref) (export "a" (func 1)) (export "" (func 0)) (export "t" (table 0)))', hosts=(((), ()),))
        engine.instantiate(parse('(module (func) (table 1 funcref) (export "a" (table 0)) (export "f" (func 0)))'))
        self.assertEqual([engine.shown(0, name) for name in ("a", "", "t", "f", "A", "aa")], [("func", 1), ("func", 0), ("table", 0), None, None, None])
        self.assertEqual([engine.shown(1, name) for name in ("a", "", "f")], [("table", 1), None, ("func", 2)])
        for instance in wrong(2):
            self.fault(engine, NoSuchItem, {"kind": "instance", "index": instance}, "shown", instance, "a")

    def test_lists_are_new(self):
        engine = full_engine()
        engine.names().clear()
        self.assertEqual(len(engine.names()), 14)


class Instantiate(EngineCase):
    def test_numbers_and_traps(self):
        engine = Engine()
        self.assertEqual(engine.instantiate(parse("(module)")), (0, None))
        self.assertEqual(engine.instantiate(parse('(module (memory 1) (data (i32.const 0) "a") (data (i32.const 65536) "b"))')), (1, "out of bounds memory access"))
        self.assertEqual(engine.instantiate(parse("(module (table 1 funcref) (func) (elem (i32.const 1) func 0))")), (2, "undefined element"))
        self.assertEqual((engine.read(0, 0, 1), engine.table(0), engine.signature(0)), ([97], [None], ((), (), 1)))
        self.assertEqual(engine.instantiate(parse("(module)")), (3, None))
        self.assertEqual(engine.status(), ("finished", (), 0))

    def test_the_start_function_is_not_called(self):
        engine = full_engine()
        self.assertEqual((engine.variable(0), engine.status()), (70, ("finished", (), 0)))

    def test_eight_instances(self):
        engine = Engine()
        for number in range(8):
            self.assertEqual(engine.instantiate(parse("(module)")), (number, None))
        self.fault(engine, LimitReached, {"what": "instances"}, "instantiate", parse("(module)"))
        self.fault(engine, InvalidModule, {}, "instantiate", INVALID)
        self.fault(engine, LimitReached, {"what": "size"}, "instantiate", Module(tables=((257, None),)))
        self.fault(engine, LimitReached, {"what": "instances"}, "instantiate", parse('(module (import "a" "b" (func)))'))

    def test_an_instance_that_traps_counts(self):
        engine = Engine()
        bad = parse("(module (table 1 funcref) (func) (elem (i32.const 1) func 0))")
        for number in range(8):
            self.assertEqual(engine.instantiate(bad), (number, "undefined element"))
        self.fault(engine, LimitReached, {"what": "instances"}, "instantiate", bad)

    def test_files(self):
        fine, large = padded(4000), padded(4001)
        self.assertEqual(len(encode(fine)), 4000)
        engine = Engine()
        self.assertEqual(engine.instantiate(fine), (0, None))
        self.fault(engine, LimitReached, {"what": "file"}, "instantiate", large)
        self.fault(engine, InvalidModule, {}, "instantiate", Module(functions=((0, (), ()),), memories=large.memories, memory_segments=large.memory_segments))
        self.fault(engine, LimitReached, {"what": "file"}, "instantiate", Module(memories=((17, None),), memory_segments=large.memory_segments))

    def test_sizes(self):
        engine = Engine()
        fine = Module(tables=((256, None), (0, 4294967295)), memories=((16, 65536),), signatures=(((A,) * 16, (B,) * 16),))
        self.assertEqual(engine.instantiate(fine), (0, None))
        self.assertEqual((len(engine.table(0)), engine.pages(0)), (256, 16))
        for large in (Module(tables=((257, None),)), Module(tables=((1, 1), (257, 300))), Module(memories=((17, None),)), Module(memories=((65536, 65536),)),
                      Module(signatures=(((A,) * 17, ()),)), Module(signatures=(((), ()), ((), (B,) * 17)))):
            self.fault(engine, LimitReached, {"what": "size"}, "instantiate", large)
        # Imported tables and memories do not count.
        self.fault(engine, ImportMissing, {"index": 0}, "instantiate", Module(imports=(("a", "t", "table", (300, None)), ("a", "m", "memory", (20, None)))))

    def test_busy(self):
        for engine in (in_progress(full_engine()), asking(full_engine())):
            self.fault(engine, Busy, {}, "instantiate", parse("(module)"))
            self.fault(engine, Busy, {}, "instantiate", parse('(module (import "a" "b" (func)))'))
            self.fault(engine, InvalidModule, {}, "instantiate", INVALID)
            self.fault(engine, LimitReached, {"what": "size"}, "instantiate", Module(tables=((257, None),)))
            self.fault(engine, LimitReached, {"what": "file"}, "instantiate", padded(4001))
        engine = Engine()
        for _ in range(8):
            engine.instantiate(parse("(module (func))"))
        engine.call(0, ())
        self.fault(engine, Busy, {}, "instantiate", parse("(module)"))

    def test_behind_a_trap(self):
        engine = full_engine()
        engine.call(TRAP, (1, 2))
        engine.run(100)
        self.assertEqual(engine.instantiate(parse("(module)")), (1, None))

    def test_each_two(self):
        """Modules with two of the faults of a module, and engines with up to two of the others: the first one in this order counts."""
        wanted = (InvalidModule, "file", "size", Busy, "instances", ImportMissing, ImportUnfit)
        crowded = full_engine()
        for _ in range(7):
            crowded.instantiate(parse("(module)"))
        busy = full_engine()
        for _ in range(7):
            busy.instantiate(parse("(module)"))
        busy.call(TWO, ())
        engines = ((full_engine(), ()), (crowded, ("instances",)), (in_progress(full_engine()), (Busy,)), (busy, (Busy, "instances")))
        parts = {
            InvalidModule: {"functions": ((99, (), ()),)},
            "file": {"memories": padded(4001).memories, "memory_segments": padded(4001).memory_segments},
            "size": {"tables": ((257, None),)},
            ImportMissing: {"imports": (("i0", "zz", "global", (A, True)),)},
            ImportUnfit: {"imports": (("i0", "t", "global", (A, True)),)},
        }
        for engine, others in engines:
            for first in parts:
                for second in parts:
                    faults = {first, second} | set(others)
                    if {ImportMissing, ImportUnfit} <= faults:
                        continue
                    due = next(fault for fault in wanted if fault in faults)
                    given = dict(parts[first])
                    given.update(parts[second])
                    module = Module(**given)
                    if isinstance(due, str):
                        self.fault(engine, LimitReached, {"what": due}, "instantiate", module)
                    else:
                        self.fault(engine, due, {"index": 0} if due in (ImportMissing, ImportUnfit) else {}, "instantiate", module)

    def test_imports(self):
        engine = full_engine()
        self.fault(engine, ImportMissing, {"index": 1}, "instantiate", parse('(module (import "i0" "t" (func)) (import "i0" "z" (func)))'))
        self.fault(engine, ImportUnfit, {"index": 0}, "instantiate", parse('(module (import "i0" "t" (func)) (import "i0" "m" (memory 2)))'))
        self.fault(engine, ImportUnfit, {"index": 1}, "instantiate", parse('(module (import "i0" "two" (func (result i32))) (import "i0" "m" (memory 2)))'))
        self.assertEqual(engine.instantiate(parse('(module (import "i0" "two" (func (result i32))) (import "i0" "m" (memory 1)) (export "a" (func 0)))')), (1, None))
        self.assertEqual(engine.shown(1, "a"), ("func", TWO))

    def test_the_module_stays(self):
        module = parse(FULL)
        before = {name: value for name, value in vars(module).items()}
        engine = engine_with(hosts=HOSTS)
        engine.instantiate(module)
        self.assertEqual(vars(module), before)


class Signatures(EngineCase):
    def test_places(self):
        engine = full_engine()
        self.assertEqual(engine.signature(HOST), ((A, B), (B, A), 0))
        self.assertEqual(engine.signature(TWO), ((), (A,), 5))
        self.assertEqual(engine.signature(TRAP), ((B, A), (A, B), 3))
        self.assertEqual(engine.signature(CATCH), ((), (A,), 11))
        for func in wrong(8):
            self.fault(engine, NoSuchItem, {"kind": "func", "index": func}, "signature", func)


class Access(EngineCase):
    def test_memories(self):
        engine = full_engine()
        self.assertEqual(engine.read(0, 9, 4), [0, 97, 98, 0])
        for data in ([1, 2], (3, 4)):
            self.assertIsNone(engine.write(0, 65534, data))
            self.assertEqual(engine.read(0, 65534, 2), list(data))
        for memory in wrong(1):
            self.fault(engine, NoSuchItem, {"kind": "memory", "index": memory}, "read", memory, -1, -1)
            self.fault(engine, NoSuchItem, {"kind": "memory", "index": memory}, "write", memory, -1, [256])
            self.fault(engine, NoSuchItem, {"kind": "memory", "index": memory}, "pages", memory)
        for at in (-1, 1048577):
            self.fault(engine, OutOfRange, {"what": "at"}, "read", 0, at, -1)
            self.fault(engine, OutOfRange, {"what": "at"}, "write", 0, at, [256] * 1001)
        for count in (-1, 1001):
            self.fault(engine, OutOfRange, {"what": "count"}, "read", 0, 65536, count)
        self.fault(engine, OutOfRange, {"what": "count"}, "write", 0, 65536, [256] * 1001)
        self.fault(engine, OutOfRange, {"what": "byte"}, "write", 0, 65536, [1, 256])
        self.fault(engine, OutOfRange, {"what": "byte"}, "write", 0, 0, (-1,))
        for at, count in ((65536, 1), (65535, 2), (1048576, 0)):
            self.fault(engine, OutOfRange, {"what": "end"}, "read", 0, at, count)
            self.fault(engine, OutOfRange, {"what": "end"}, "write", 0, at, [0] * count)

    def test_variables(self):
        engine = full_engine()
        self.assertEqual((engine.variable(0), engine.variable(1)), (70, -8))
        for value in (2 ** 63 - 1, -2 ** 63):
            self.assertIsNone(engine.set_variable(0, value))
            self.assertEqual(engine.variable(0), value)
        for index in wrong(2):
            self.fault(engine, NoSuchItem, {"kind": "global", "index": index}, "variable", index)
            self.fault(engine, NoSuchItem, {"kind": "global", "index": index}, "set_variable", index, 2 ** 70)
        self.fault(engine, Immutable, {"index": 1}, "set_variable", 1, 1)
        self.fault(engine, Immutable, {"index": 1}, "set_variable", 1, 2 ** 70)
        for value in (2 ** 63, -2 ** 63 - 1):
            self.fault(engine, BadValues, {}, "set_variable", 0, value)

    def test_tables(self):
        engine = full_engine()
        self.assertEqual(engine.table(0), [None, TWO, None])
        for func in (7, 0, None):
            self.assertIsNone(engine.set_table(0, 2, func))
            self.assertEqual(engine.table(0), [None, TWO, func])
        engine.table(0).clear()
        self.assertEqual(len(engine.table(0)), 3)
        for table in wrong(1):
            self.fault(engine, NoSuchItem, {"kind": "table", "index": table}, "table", table)
            self.fault(engine, NoSuchItem, {"kind": "table", "index": table}, "set_table", table, -1, -1)
        for at in wrong(3):
            self.fault(engine, NoSuchItem, {"kind": "entry", "index": at}, "set_table", 0, at, -1)
            self.fault(engine, NoSuchItem, {"kind": "entry", "index": at}, "set_table", 0, at, None)
        for func in wrong(8):
            self.fault(engine, NoSuchItem, {"kind": "func", "index": func}, "set_table", 0, 0, func)

    def test_at_any_time(self):
        for engine in (in_progress(full_engine()), asking(full_engine())):
            before = engine.status()
            engine.write(0, 0, [1])
            engine.set_variable(0, 1)
            engine.set_table(0, 0, 0)
            self.assertEqual((engine.read(0, 0, 1), engine.variable(0), engine.table(0)[0]), ([1], 1, 0))
            self.assertEqual(engine.status(), before)

    def test_pages(self):
        engine = engine_with("(module (memory 1 2) (func (param i32) local.get 0 memory.grow drop))", "(module (memory 0))")
        self.assertEqual((engine.pages(0), engine.pages(1)), (1, 0))
        engine.call(0, (1,))
        engine.run(100)
        self.assertEqual((engine.pages(0), engine.pages(1)), (2, 0))


class Running(EngineCase):
    def test_a_run(self):
        engine = full_engine()
        self.assertIsNone(engine.call(TWO, ()))
        self.assertEqual(engine.status(), ("running", 0))
        self.assertEqual(engine.run(3), 3)
        self.assertEqual(engine.run(100), 3)
        self.assertEqual(engine.status(), ("asks", 0, (9, -2), 6))
        self.assertEqual(engine.run(100), 0)
        self.assertIsNone(engine.answer((1, 2)))
        self.assertEqual(engine.status(), ("running", 6))
        self.assertEqual(engine.run(2000), 6)
        self.assertEqual(engine.status(), ("finished", (11,), 12))
        self.assertEqual(engine.run(2000), 0)

    def test_errors_of_call(self):
        engine = full_engine()
        for func in wrong(8):
            self.fault(engine, NoSuchItem, {"kind": "func", "index": func}, "call", func, (1, 2, 3))
        bad = ((), (1,), (1, 2, 3), (2 ** 63, 1), (1, 2 ** 31), (-2 ** 63 - 1, 1), (1, -2 ** 31 - 1))
        for values in bad:
            self.fault(engine, BadValues, {}, "call", TRAP, values)
        for values in ((), (1,), (2 ** 31, 1), (1, 2 ** 63)):
            self.fault(engine, BadValues, {}, "call", HOST, values)
        for engine in (in_progress(engine), asking(full_engine())):
            for func in (TWO, HOST):
                self.fault(engine, Busy, {}, "call", func, () if func == TWO else (1, 1))
            self.fault(engine, BadValues, {}, "call", TRAP, (1,))
            self.fault(engine, NoSuchItem, {"kind": "func", "index": 8}, "call", 8, ())
        engine = full_engine()
        engine.call(TRAP, (2 ** 63 - 1, -2 ** 31))
        self.assertEqual(engine.frames(), [(TRAP, 0, 0, (2 ** 63 - 1, -2 ** 31), ())])

    def test_a_host_function_from_outside(self):
        engine = full_engine()
        engine.call(HOST, (5, 6))
        self.assertEqual((engine.status(), engine.frames(), engine.run(10)), (("asks", 0, (5, 6), 0), [], 0))
        engine.answer((2 ** 63 - 1, -2 ** 31))
        self.assertEqual(engine.status(), ("finished", (2 ** 63 - 1, -2 ** 31), 0))
        engine.call(1, ())
        self.assertEqual(engine.status(), ("asks", 1, (), 0))
        engine.answer_throw(0, (4,))
        self.assertEqual(engine.status(), ("thrown", 0, (4,), 0))
        engine.call(1, ())
        engine.answer_trap("integer overflow")
        self.assertEqual((engine.status(), engine.frames()), (("trapped", "integer overflow", 0), []))

    def test_a_new_call_behind_a_trap(self):
        engine = full_engine()
        engine.call(TRAP, (1, 2))
        self.assertEqual(engine.run(100), 2)
        self.assertEqual((engine.status(), engine.frames()), (("trapped", "unreachable", 2), [(TRAP, 0, 1, (1, 2), (3,))]))
        engine.call(BEGIN, ())
        self.assertEqual((engine.status(), engine.frames()), (("running", 2), [(BEGIN, 0, 0, (), ())]))
        engine.run(100)
        self.assertEqual((engine.status(), engine.variable(0)), (("finished", (), 5), 71))

    def test_start(self):
        engine = engine_with(FULL, "(module (func))", '(module (import "i0" "begin" (func $b)) (start $b))', '(module (import "h" "1" (func $k)) (start $k))', hosts=HOSTS)
        self.assertIsNone(engine.start(0))
        self.assertEqual((engine.status(), engine.frames()), (("running", 0), [(BEGIN, 0, 0, (), ())]))
        self.fault(engine, Busy, {}, "start", 0)
        self.fault(engine, NoSuchItem, {"kind": "start", "index": 1}, "start", 1)
        for instance in wrong(4):
            self.fault(engine, NoSuchItem, {"kind": "instance", "index": instance}, "start", instance)
        engine.run(100)
        self.assertEqual(engine.variable(0), 71)
        self.fault(engine, NoSuchItem, {"kind": "start", "index": 1}, "start", 1)
        engine.set_variable(0, 0)
        engine.start(2)
        engine.run(100)
        self.assertEqual((engine.variable(0), engine.status()), (71, ("finished", (), 6)))
        engine.start(3)
        self.assertEqual((engine.status(), engine.frames()), (("asks", 1, (), 6), []))
        self.fault(engine, Busy, {}, "start", 2)

    def test_numbers_of_steps(self):
        engine = full_engine()
        engine.call(TWO, ())
        for method in ("run", "over", "out"):
            for steps in (-1, 2001, 10 ** 30, -10 ** 30):
                self.fault(engine, OutOfRange, {"what": "steps"}, method, steps)
            self.assertEqual(getattr(engine, method)(0), 0)
        engine = engine_with("(module (func loop br 0 end))")
        engine.call(0, ())
        for method in ("run", "over", "out"):
            self.assertEqual(getattr(engine, method)(2000), 1 if method == "over" else 2000)

    def test_errors_of_answer(self):
        engine = full_engine()
        self.fault(engine, NotAsked, {}, "answer", ())
        self.fault(in_progress(engine), NotAsked, {}, "answer", (1, 2, 3))
        engine = asking(full_engine())
        for values in ((), (1,), (1, 2, 3), (2 ** 63, 1), (1, 2 ** 31), (1, -2 ** 31 - 1)):
            self.fault(engine, BadValues, {}, "answer", values)
        engine.answer((-2 ** 63, 2 ** 31 - 1))
        self.assertEqual(engine.frames()[0][4], (-2 ** 63, 2 ** 31 - 1))
        self.fault(engine, NotAsked, {}, "answer", (1, 1))

    def test_errors_of_answer_throw(self):
        for engine in (full_engine(), in_progress(full_engine())):
            self.fault(engine, NotAsked, {}, "answer_throw", 0, (1,))
            self.fault(engine, NotAsked, {}, "answer_throw", 9, (1, 2))
        engine = asking(full_engine())
        for tag in wrong(2):
            self.fault(engine, NoSuchItem, {"kind": "tag", "index": tag}, "answer_throw", tag, (1, 2, 3))
        for tag, values in ((0, ()), (0, (1, 2)), (0, (2 ** 31,)), (1, (1,))):
            self.fault(engine, BadValues, {}, "answer_throw", tag, values)
        self.assertIsNone(engine.answer_throw(0, (-2 ** 31,)))
        self.assertEqual((engine.status(), engine.frames()), (("thrown", 0, (-2 ** 31,), 6), []))

    def test_an_exception_that_is_caught(self):
        engine = full_engine()
        engine.call(CATCH, ())
        engine.run(100)
        engine.answer_throw(0, (5,))
        self.assertEqual((engine.status(), engine.frames()), (("running", 7), [(CATCH, 0, 8, (), (5,))]))
        engine.run(100)
        self.assertEqual(engine.status(), ("finished", (105,), 10))

    def test_errors_of_answer_trap(self):
        for engine in (full_engine(), in_progress(full_engine())):
            self.fault(engine, NotAsked, {}, "answer_trap", "unreachable")
            self.fault(engine, NotAsked, {}, "answer_trap", "?")
        for reason in ("", "Unreachable", "unreachable ", "trap", "stack exhausted"):
            self.fault(asking(full_engine()), OutOfRange, {"what": "reason"}, "answer_trap", reason)
        for reason in REASONS:
            engine = asking(full_engine())
            frames = engine.frames()
            self.assertIsNone(engine.answer_trap(reason))
            self.assertEqual((engine.status(), engine.frames()), (("trapped", reason, 6), frames))

    def test_into(self):
        engine = full_engine()
        self.assertEqual(engine.into(), 0)
        engine.call(TWO, ())
        self.assertEqual([engine.into() for _ in range(8)], [1] * 6 + [0, 0])
        self.assertEqual(engine.status(), ("asks", 0, (9, -2), 6))


class Fast(EngineCase):
    def test_switching(self):
        engine = full_engine()
        self.assertIs(engine.make_fast(TWO), True)
        self.assertIs(engine.make_fast(TWO), False)
        self.assertIs(engine.make_fast(ASK), True)
        self.assertEqual(engine.fast_functions(), [ASK, TWO])
        engine.fast_functions().clear()
        self.assertIs(engine.make_plain(TWO), True)
        self.assertIs(engine.make_plain(TWO), False)
        self.assertIs(engine.make_plain(HOST), False)
        self.assertIs(engine.make_plain(FILL), False)
        self.assertEqual(engine.fast_functions(), [ASK])

    def test_errors(self):
        engine = full_engine()
        for func in wrong(8):
            for method in ("make_fast", "make_plain"):
                self.fault(engine, NoSuchItem, {"kind": "func", "index": func}, method, func)
            for method in ("block_at", "improved_at"):
                self.fault(engine, NoSuchItem, {"kind": "func", "index": func}, method, func, 0)
        for func in (0, 1):
            self.fault(engine, NoSuchItem, {"kind": "func", "index": func}, "make_fast", func)
            self.fault(engine, NoSuchItem, {"kind": "func", "index": func}, "block_at", func, 0)
            self.fault(engine, NoSuchItem, {"kind": "func", "index": func}, "improved_at", func, 0)

    def test_blocks(self):
        engine = engine_with(FULL, "(module (func (param i32) (result i32) i32.const 2 i32.const 3 i32.mul local.get 0 i32.add) (func nop))", hosts=HOSTS)
        block = (0, 0, 5, (("const", 1, 2), ("const", 2, 3), ("compute", "i32.mul", 1, (1, 2)), ("copy", 2, 0), ("compute", "i32.add", 1, (1, 2))), ("leave", 5))
        for fast in (False, True):
            self.assertEqual(engine.block_at(8, 0), block)
            self.assertEqual(engine.improved_at(8, 0), (0, 0, 5, (("const", 1, 6), ("compute", "i32.add", 1, (1, 0))), ("leave", 5)))
            self.assertEqual(engine.block_at(9, 0), (0, 0, 1, (("skip",),), ("leave", 1)))
            self.assertEqual(engine.improved_at(9, 0), (0, 0, 1, (), ("leave", 1)))
            for place in (1, 4, 6, 100, -1, 10 ** 30, -10 ** 30):
                self.assertIsNone(engine.block_at(8, place))
                self.assertIsNone(engine.improved_at(8, place))
            engine.make_fast(8)
        # Functions of an instance with imports.
        self.assertEqual(engine.block_at(TWO, 3), (3, 2, 1, (("compute", "i32.add", 0, (0, 1)),), ("leave", 4)))
        self.assertEqual(engine.block_at(TWO, 0)[4], ("leave", 2))

    def test_runs_are_the_same(self):
        ends = []
        for fast in (False, True):
            engine = full_engine()
            if fast:
                for func in range(2, 8):
                    engine.make_fast(func)
            engine.call(TWO, ())
            taken = [engine.run(1), engine.run(100), engine.answer((5, 6)), engine.run(3), engine.run(100)]
            for func in range(2, 8):
                engine.make_plain(func)
            ends.append((taken, engine.save()))
        self.assertEqual(ends[0], ends[1])

    def test_while_a_run_is_in_progress(self):
        engine = in_progress(full_engine())
        engine.make_fast(TWO)
        self.assertEqual(engine.run(100), 5)
        engine.make_plain(TWO)
        self.assertEqual(engine.status(), ("asks", 0, (9, -2), 6))


if __name__ == "__main__":
    unittest.main()

"""Records (points 1002 to 1008)."""
import unittest

from engines import A, ASK, B, BEGIN, CATCH, FILL, HOST, HOSTS, TRAP, TWO, EngineCase, engine_with, full_engine, padded
from saves import listed, packed, plain, save_of, signature, tree_of, unpacked, value, values, with_check
from wasmhost.binary.modules import encode
from wasmhost.engine import Engine
from wasmhost.errors import BadClaim, DamagedRecord, HostError
from wasmhost.modules import Module
from wasmhost.records import audit, part, read_record, write_record
from wasmhost.text.modules import parse

HEAD = (87, 65, 82, 1)

REASONS = ("unreachable", "integer divide by zero", "integer overflow", "out of bounds memory access", "undefined element", "uninitialized element",
           "indirect call mismatch", "call stack exhausted")

USER = '(module (import "i0" "t" (table 1 funcref)) (import "i0" "ask" (func (param i32) (result i32))) (memory 1) (data (i32.const 65536) "x"))'

# Each sort of deed, with the numbers of point 1005.
DEEDS = [
    (("host", (A, B), (B,)), [0, 2, 0, 1, 1, 1]), (("host", (), ()), [0, 0, 0]),
    (("instance", (0, 97, 255), (3, 200)), [1, 3, 0, 97, 255, 2, 3, 200]), (("instance", (), ()), [1, 0, 0]),
    (("call", 300, (-1, 5)), [2, 300, 2, 1, 10]), (("call", 0, ()), [2, 0, 0]),
    (("run", 2000), [3, 2000]), (("run", 0), [3, 0]),
    (("answer", (2 ** 63 - 1, -2 ** 63)), [4, 2, 2 ** 64 - 2, 2 ** 64 - 1]), (("answer", ()), [4, 0]),
    (("throw", 7, (0,)), [5, 7, 1, 0]), (("throw", 0, ()), [5, 0, 0]),
    (("write", 1, 65536, (0, 255, 3)), [7, 1, 65536, 3, 0, 255, 3]), (("write", 0, 0, ()), [7, 0, 0, 0]),
    (("variable", 2, -300), [8, 2, 599]), (("table", 1, 2, None), [9, 1, 2, 0]), (("table", 1, 2, 0), [9, 1, 2, 1]), (("table", 0, 255, 6), [9, 0, 255, 7]),
    (("local", 3, 4, -1), [10, 3, 4, 1]),
] + [(("trap", reason), [6, number]) for number, reason in enumerate(REASONS)]


def machine_save(engine):
    """The save of an engine without names, breakpoints and fast functions."""
    tree = tree_of(engine)
    tree.update(names=[], points=[], fast=[])
    return save_of(tree)


class Case(EngineCase):
    def damaged(self, data, row=None):
        """The data are no record, or a row of them cannot be performed."""
        before = list(data)
        for action in (read_record, audit) if row is None else ():
            with self.assertRaises(DamagedRecord) as caught:
                action(data)
            self.assertEqual(vars(caught.exception), {"row": None})
        if row is None:
            for pair in ((data, data), (data, packed([0], HEAD)), (packed(plain(Engine().save()) + [0], HEAD), data)):
                with self.assertRaises(DamagedRecord) as caught:
                    part(*pair)
                self.assertEqual(vars(caught.exception), {"row": None})
        engine = full_engine()
        engine.record()
        engine.call(TWO, ())
        self.fault(engine, DamagedRecord, {"row": row}, "replay", data)
        self.assertEqual(data, before)


class Bytes(Case):
    START = Engine().save()

    def test_each_deed(self):
        for deed, numbers in DEEDS:
            data = packed(plain(self.START) + [1] + numbers + [77], HEAD)
            self.assertEqual(write_record(self.START, [(deed, 77)]), data)
            self.assertEqual(read_record(data), (self.START, [(deed, 77)]))

    def test_many_rows(self):
        rows = [(deed, at * 10 ** 12) for at, (deed, _) in enumerate(DEEDS)]
        numbers = listed([row + [at * 10 ** 12] for at, (_, row) in enumerate(DEEDS)])
        data = packed(plain(self.START) + numbers, HEAD)
        self.assertEqual(write_record(self.START, rows), data)
        found = read_record(data)
        self.assertEqual(found, (self.START, rows))
        self.assertEqual([type(each) for each in found], [list, list])
        self.assertEqual({type(row) for row in found[1]} | {type(found)}, {tuple})

    def test_no_rows(self):
        data = packed(plain(self.START) + [0], HEAD)
        self.assertEqual((write_record(self.START, []), read_record(data), audit(data), part(data, data)), (data, (self.START, []), None, None))
        self.assertEqual(full_engine().replay(data), 0)

    def test_the_arguments_stay(self):
        start, rows = list(self.START), [(("run", 5), 6)]
        data = write_record(start, rows)
        self.assertEqual((start, rows), (self.START, [(("run", 5), 6)]))
        copy = list(data)
        found = read_record(data)
        found[0].clear()
        found[1].clear()
        self.assertEqual((data, read_record(data)), (copy, (self.START, rows)))

    def test_no_records(self):
        good = write_record(self.START, [(("run", 5), 6)])
        for data in ([], good[:-1], good + [0], good[:7], self.START, packed(plain(self.START) + [0]), packed(plain(self.START) + [0], (87, 65, 82, 2)),
                     good[:-1] + [good[-1] ^ 1]):
            self.damaged(data)
        self.damaged(with_check(list(HEAD) + [128, 0]))
        self.damaged(with_check(list(good[:-4]) + [128]))
        self.damaged(with_check(list(good[:-4]) + [128, 0]))

    def test_numbers_that_are_missing_or_left_over(self):
        for deed, row in DEEDS:
            numbers = plain(self.START) + [1] + row + [77]
            for count in range(len(numbers) - len(row) - 2, len(numbers)):
                self.damaged(packed(numbers[:count], HEAD))
            self.damaged(packed(numbers + [0], HEAD))

    def test_numbers_that_stand_for_something(self):
        for row in ([11, 0], [10 ** 30, 0], [6, 8], [6, 10 ** 30], [0, 1, 2, 0], [0, 0, 1, 2], [1, 1, 256, 0], [7, 0, 0, 1, 256], [7, 0, 0, 1, 10 ** 30]):
            self.damaged(packed(plain(self.START) + [1] + row + [77], HEAD))

    def test_the_save(self):
        for start in ([], self.START[:-1], self.START + [0], [0] * 20, packed([0] * 11), packed([0] * 12)):
            self.damaged(write_record(start, []))
        self.damaged(packed([1, 256, 0], HEAD))

    def test_deeds_that_cannot_be_performed_belong_to_a_record(self):
        for deed, _ in DEEDS + [(("run", 10 ** 30), []), (("call", 10 ** 30, (10 ** 30,)), []), (("host", (A,) * 40, ()), [])]:
            self.assertEqual(read_record(write_record(self.START, [(deed, 10 ** 50)])), (self.START, [(deed, 10 ** 50)]))

    def test_each_byte_changed(self):
        engine = engine_with("(module (func (param i32) local.get 0 drop))")
        engine.record()
        engine.call(0, (5,))
        engine.run(10)
        data = engine.stop()
        for place in range(4, len(data) - 4):
            for byte in (data[place] ^ 1, data[place] ^ 128, 0):
                changed = with_check(data[:place] + [byte] + data[place + 1:-4])
                try:
                    read_record(changed)
                    audit(changed)
                    Engine().replay(changed)
                except DamagedRecord:
                    pass


class Recording(Case):
    def setUp(self):
        self.engine = full_engine()
        self.engine.run(0)

    def deeds(self, *actions):
        """The deeds of a record of some calls of methods, which are tuples; all digests must be right."""
        engine = self.engine
        start = machine_save(engine)
        self.assertIsNone(engine.record())
        self.assertEqual(engine.recorded(), 0)
        digests = []
        for count, (method, *arguments) in enumerate(actions, 1):
            getattr(engine, method)(*arguments)
            self.assertEqual(engine.recorded(), count)
            digests.append(engine.digest())
        end = machine_save(engine)
        data = engine.stop()
        found, rows = read_record(data)
        self.assertEqual((found, [digest for _, digest in rows]), (start, digests))
        self.assertEqual((data, audit(data), engine.recorded()), (write_record(start, rows), None, None))
        other = full_engine()
        other.break_at(TWO, 1)
        other.record()
        self.assertEqual(other.replay(data), len(rows))
        self.assertEqual((other.save(), other.recorded()), (end, None))
        return [deed for deed, _ in rows]

    def test_each_method(self):
        module = parse(USER)
        self.assertEqual(self.deeds(
            ("add_host", (A,), (B,)), ("instantiate", module), ("call", TWO, ()), ("run", 2), ("over", 1), ("set_local", 0, 0, -5), ("into",), ("run", 2000),
            ("answer", (1, 2)), ("out", 100), ("run", 100), ("start", 0), ("run", 0), ("run", 2000), ("call", HOST, (5, 6)), ("answer_throw", 0, (8,)),
            ("call", HOST, (5, 6)), ("answer_trap", "integer overflow"), ("write", 0, 3, [1, 0, 255]), ("write", 0, 65536, ()), ("set_variable", 0, -1),
            ("set_table", 0, 0, 4), ("set_table", 0, 1, None), ("over", 5), ("out", 5), ("into",), ("call", CATCH, ())), [
            ("host", (A,), (B,)), ("instance", tuple(encode(module)), (0, ASK)), ("call", TWO, ()), ("run", 2), ("run", 1), ("local", 0, 0, -5), ("run", 1),
            ("run", 2), ("answer", (1, 2)), ("run", 4), ("run", 2), ("call", BEGIN, ()), ("run", 0), ("run", 3), ("call", HOST, (5, 6)), ("throw", 0, (8,)),
            ("call", HOST, (5, 6)), ("trap", "integer overflow"), ("write", 0, 3, (1, 0, 255)), ("write", 0, 65536, ()), ("variable", 0, -1),
            ("table", 0, 0, 4), ("table", 0, 1, None), ("run", 0), ("run", 0), ("run", 0), ("call", CATCH, ())])

    def test_steps_that_were_taken(self):
        self.engine.break_at(ASK, 1)
        self.engine.break_at(TWO, 3)
        for func in (TWO, ASK):
            self.engine.make_fast(func)
        self.assertEqual(self.deeds(("call", TWO, ()), ("run", 2000), ("run", 1), ("run", 2000), ("answer", (1, 1)), ("over", 1), ("out", 2000), ("run", 2000)), [
            ("call", TWO, ()), ("run", 4), ("run", 1), ("run", 1), ("answer", (1, 1)), ("run", 1), ("run", 3), ("run", 2)])

    def test_other_methods_are_no_deeds(self):
        engine = self.engine
        engine.record()
        engine.define("a", "b", "func", 0)
        engine.publish(0, "c")
        engine.break_at(TWO, 0)
        engine.clear_break(TWO, 0)
        engine.make_fast(TWO)
        engine.make_plain(TWO)
        for method, arguments in (("names", ()), ("shown", (0, "two")), ("signature", (0,)), ("read", (0, 0, 1)), ("variable", (0,)), ("table", (0,)), ("pages", (0,)),
                                  ("status", ()), ("breaks", ()), ("frames", ()), ("fast_functions", ()), ("block_at", (TWO, 0)), ("improved_at", (TWO, 0)),
                                  ("save", ()), ("digest", ()), ("recorded", ())):
            getattr(engine, method)(*arguments)
            self.assertEqual(engine.recorded(), 0, method)

    def test_calls_that_raise_are_no_deeds(self):
        engine = self.engine
        engine.record()
        engine.call(TWO, ())
        for method, *arguments in (("add_host", (), ()), ("instantiate", Module()), ("instantiate", padded(4001)), ("call", TWO, ()), ("call", 99, ()), ("start", 0), ("start", 5),
                                   ("run", -1), ("over", 2001), ("out", -1), ("answer", ()), ("answer_throw", 0, ()), ("answer_trap", "x"), ("write", 0, 0, [256]),
                                   ("set_variable", 1, 0), ("set_table", 0, 5, None), ("set_local", 0, 0, 0)):
            with self.assertRaises(HostError):
                getattr(engine, method)(*arguments)
            self.assertEqual(engine.recorded(), 1, method)
        engine.run(100)
        for method, *arguments in (("answer", (1,)), ("answer_throw", 5, ()), ("answer_trap", "x"), ("set_local", 0, 9, 0)):
            with self.assertRaises(HostError):
                getattr(engine, method)(*arguments)
            self.assertEqual(engine.recorded(), 2, method)

    def test_recording_begins_anew(self):
        engine = self.engine
        self.assertIsNone(engine.stop())
        self.assertIsNone(engine.recorded())
        engine.record()
        engine.call(TWO, ())
        engine.run(2)
        engine.record()
        self.assertEqual(engine.recorded(), 0)
        engine.into()
        start, rows = read_record(engine.stop())
        self.assertEqual((len(rows), rows[0][0]), (1, ("run", 1)))
        self.assertEqual((engine.recorded(), engine.stop()), (None, None))
        engine.run(3)
        self.assertIsNone(engine.recorded())
        self.assertNotEqual(start, Engine().save())

    def test_names_breakpoints_and_fast_functions_are_not_kept(self):
        engine = self.engine
        engine.break_at(TWO, 1)
        engine.make_fast(TWO)
        engine.record()
        start, _ = read_record(engine.stop())
        self.assertEqual(start, machine_save(engine))
        self.assertNotEqual(start, engine.save())

    def test_restore_and_replay_end_a_record(self):
        engine = self.engine
        engine.record()
        record = write_record(Engine().save(), [(("host", (), ()), 5)])
        engine.restore(engine.save())
        self.assertEqual((engine.recorded(), engine.stop()), (None, None))
        engine.record()
        self.assertEqual(engine.replay(record), 1)
        self.assertEqual((engine.recorded(), engine.stop()), (None, None))
        engine.record()
        with self.assertRaises(HostError):
            engine.restore([1])
        with self.assertRaises(HostError):
            engine.replay([1])
        self.assertEqual(engine.recorded(), 0)

    def test_the_engine_goes_on_behind_stop(self):
        engine = self.engine
        engine.record()
        engine.call(TWO, ())
        before = engine.save()
        engine.stop()
        self.assertEqual(engine.save(), before)

    def test_an_instance_that_traps_is_a_deed(self):
        module = parse("(module (table 1 funcref) (func) (elem (i32.const 1) func 0))")
        self.assertEqual(self.deeds(("instantiate", module), ("instantiate", module)), [("instance", tuple(encode(module)), ())] * 2)


class Replay(Case):
    def record_of(self, *deeds, start=None):
        """A record with these deeds, whose digests are right as far as they can be performed."""
        start = machine_save(full_engine()) if start is None else start
        return write_record(start, [(deed, 0) for deed in deeds])

    def test_digests_do_not_count(self):
        engine = Engine()
        data = self.record_of(("call", BEGIN, ()), ("run", 100))
        self.assertEqual(engine.replay(data), 2)
        self.assertEqual((engine.variable(0), engine.status()), (71, ("finished", (), 3)))

    def test_names_and_more_of_the_save_are_dropped(self):
        other = full_engine()
        other.break_at(TWO, 1)
        other.make_fast(TWO)
        engine = Engine()
        engine.replay(self.record_of(("call", TWO, ()), ("run", 6), start=other.save()))
        self.assertEqual((engine.names(), engine.breaks(), engine.fast_functions(), engine.status()), ([], [], [], ("asks", 0, (9, -2), 6)))

    def test_each_deed_that_cannot_be_performed(self):
        bad = [("host", (A,) * 17, ()), ("host", (), (A,) * 17), ("call", 8, ()), ("call", TWO, (1,)), ("call", TRAP, (2 ** 63, 0)), ("run", 2001), ("run", 10 ** 30),
               ("answer", ()), ("throw", 0, (1,)), ("trap", "unreachable"), ("write", 1, 0, ()), ("write", 0, 1048577, ()), ("write", 0, 65536, (1,)),
               ("write", 0, 0, (0,) * 1001), ("variable", 2, 0), ("variable", 1, 0), ("variable", 0, 2 ** 63), ("table", 1, 0, None), ("table", 0, 3, None), ("table", 0, 0, 8),
               ("local", 0, 0, 0)]
        for deed in bad:
            self.damaged(self.record_of(deed), 0)
            self.damaged(self.record_of(("write", 0, 0, (1,)), ("call", BEGIN, ()), ("run", 2), ("run", 1), deed, ("call", 8, ())), 4)
        running = [("call", TWO, ()), ("run", 3)]
        for deed in (("host", (), ()), ("instance", tuple(encode(Module())), ()), ("call", TWO, ()), ("answer", (1, 1)), ("local", 2, 0, 0), ("local", 1, 0, 0),
                     ("local", 0, 2, 0), ("local", 0, 0, 2 ** 31)):
            self.damaged(self.record_of(*running, deed), 2)
        asking = running + [("run", 100)]
        for deed in (("answer", (1,)), ("answer", (2 ** 63, 1)), ("throw", 2, ()), ("throw", 0, ()), ("instance", tuple(encode(Module())), ())):
            self.damaged(self.record_of(*asking, deed), 3)

    def test_good_instances(self):
        file = tuple(encode(parse(USER)))
        engine = Engine()
        self.assertEqual(engine.replay(self.record_of(("instance", file, (0, ASK)))), 1)
        self.assertEqual(engine.pages(1), 1)
        # The item need not be the one that a name gives.
        self.assertEqual(engine.replay(self.record_of(("host", (A,), (A,)), ("instance", file, (0, 8)))), 2)

    def test_instances_that_cannot_be_added(self):
        file = tuple(encode(parse(USER)))
        for found in ((), (0,), (0, ASK, 0), (0, 0, ASK), (ASK, 0), (1, ASK), (0, 8), (0, TWO), (10 ** 30, ASK), (0, 10 ** 30)):
            self.damaged(self.record_of(("instance", file, found)), 0)
        empty = tuple(encode(Module()))
        for other in ((), empty[:-1], empty + (0,), empty + (0, 1, 0), (7,) * 4001, tuple(encode(Module(exports=(("a", "func", 0),)))),
                      tuple(encode(Module(tables=((257, None),)))), tuple(encode(Module(memories=((17, None),)))), tuple(encode(Module(signatures=(((A,) * 17, ()),))))):
            self.damaged(self.record_of(("instance", other, ())), 0)
        self.damaged(self.record_of(("instance", empty, (0,))), 0)
        self.damaged(self.record_of(*[("instance", empty, ())] * 8), 7)
        self.assertEqual(Engine().replay(self.record_of(*[("instance", empty, ())] * 7)), 7)
        self.damaged(self.record_of(*[("host", (), ())] * 19), 18)

    def test_sizes_of_the_moment(self):
        text = '(module (import "" "" (memory 2)))'
        file = tuple(encode(parse(text)))
        start = machine_save(engine_with("(module (memory 1 2) (func i32.const 1 memory.grow drop))"))
        self.damaged(self.record_of(("instance", file, (0,)), start=start), 0)
        self.assertEqual(Engine().replay(self.record_of(("call", 0, ()), ("run", 100), ("instance", file, (0,)), start=start)), 3)

    def test_runs_have_no_breakpoints(self):
        other = full_engine()
        other.break_at(TWO, 1)
        engine = Engine()
        engine.replay(self.record_of(("call", TWO, ()), ("run", 3), start=other.save()))
        self.assertEqual(engine.status(), ("running", 3))


class Audit(Case):
    def record(self):
        engine = full_engine()
        engine.record()
        engine.call(TWO, ())
        engine.run(100)
        engine.answer((1, 2))
        engine.into()
        engine.set_local(0, 0, 5)
        engine.run(100)
        engine.run(100)
        return read_record(engine.stop())

    def test_a_wrong_digest_in_each_row(self):
        start, rows = self.record()
        self.assertEqual(len(rows), 7)
        for at, (deed, digest) in enumerate(rows):
            for wrong in (digest + 1, 0, digest + 2305843009213693951):
                self.assertEqual(audit(write_record(start, rows[:at] + [(deed, wrong)] + rows[at + 1:])), at)
                changed = [(each, wrong) if number >= at else (each, other) for number, (each, other) in enumerate(rows)]
                self.assertEqual(audit(write_record(start, changed)), at)
        self.assertIsNone(audit(write_record(start, rows)))

    def test_deeds_that_cannot_be_performed(self):
        start, rows = self.record()
        for at in range(len(rows)):
            bad = (("call", 99, ()), rows[at][1])
            self.assertEqual(audit(write_record(start, rows[:at] + [bad] + rows[at + 1:])), at)
            self.assertEqual(audit(write_record(start, rows[:at] + [bad])), at)

    def test_other_deeds(self):
        start, rows = self.record()
        self.assertEqual(audit(write_record(start, rows[:1] + [(("run", 5), rows[1][1])] + rows[2:])), 1)
        # Fewer steps than were recorded, where the machine stops anyway, give the same machine.
        self.assertIsNone(audit(write_record(start, rows[:1] + [(("run", 2000), rows[1][1])] + rows[2:])))

    def test_an_engine_with_names_replays_alike(self):
        engine = full_engine()
        engine.make_fast(FILL)
        engine.break_at(FILL, 3)
        engine.record()
        engine.call(FILL, ())
        for _ in range(6):
            engine.run(100)
        self.assertIsNone(audit(engine.stop()))


class Part(Case):
    ROWS = [(("run", 1), 5), (("run", 2), 6), (("call", 0, (1,)), 7)]

    def parts(self, first, second, start=None):
        start = Engine().save() if start is None else start
        one, other = write_record(start, first), write_record(start, second)
        self.assertEqual(part(one, other), part(other, one))
        return part(one, other)

    def test_equal_records(self):
        for count in range(4):
            self.assertIsNone(self.parts(self.ROWS[:count], self.ROWS[:count]))

    def test_at_a_deed_or_a_digest(self):
        for at in range(3):
            for row in ((self.ROWS[at][0], 99), (("run", 9), self.ROWS[at][1]), (("answer", ()), 99)):
                changed = self.ROWS[:at] + [row] + self.ROWS[at + 1:]
                self.assertEqual(self.parts(self.ROWS, changed), at)
                self.assertEqual(self.parts(self.ROWS, changed[:at + 1]), at)
                self.assertEqual(self.parts(self.ROWS, changed[:at + 1] + [(("run", 7), 7)] * 5), at)

    def test_at_the_end_of_the_shorter_one(self):
        for at in range(3):
            self.assertEqual(self.parts(self.ROWS, self.ROWS[:at]), at)

    def test_other_saves(self):
        other = machine_save(full_engine())
        for first, second in ((self.ROWS, self.ROWS), ([], []), (self.ROWS, [])):
            for pair in ((Engine().save(), other), (other, Engine().save())):
                with self.assertRaises(BadClaim):
                    part(write_record(pair[0], first), write_record(pair[1], second))

    def test_no_record_comes_first(self):
        good = write_record(machine_save(full_engine()), [])
        for pair in (([], good), (good, []), ([], []), (write_record(Engine().save(), []), good[:-1])):
            with self.assertRaises(DamagedRecord) as caught:
                part(*pair)
            self.assertIsNone(caught.exception.row)

    def test_names_in_the_save_count(self):
        with self.assertRaises(BadClaim):
            part(write_record(machine_save(full_engine()), []), write_record(full_engine().save(), []))


class Helpers(unittest.TestCase):
    def test_the_writer_of_these_tests(self):
        self.assertEqual(signature(((A,), (B, B))), [1, 0, 2, 1, 1])
        self.assertEqual((value(-3), values([1, -1]), unpacked(packed([300, 0], HEAD))), (5, [2, 2, 1], [300, 0]))
        self.assertEqual(len(HOSTS), 2)


if __name__ == "__main__":
    unittest.main()

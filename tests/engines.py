"""What several tests of engines need."""
import copy
import unittest

from wasmhost.binary.modules import encode
from wasmhost.engine import Engine
from wasmhost.modules import Module
from wasmhost.text.modules import parse

A, B = "i32", "i64"

# Numbers that name nothing where there are so many items.
def wrong(count):
    return (-1, count, count + 1, -count - 1, 2 ** 32, 10 ** 30, -10 ** 30)


class EngineCase(unittest.TestCase):
    def fault(self, engine, error, parts, method, *arguments):
        """The call raises this error with these attributes, and leaves the engine and the arguments as they were."""
        before = (engine.save(), engine.recorded(), copy.deepcopy(arguments))
        with self.assertRaises(error) as caught:
            getattr(engine, method)(*arguments)
        self.assertEqual((type(caught.exception), vars(caught.exception)), (error, parts), (method, arguments))
        self.assertEqual((engine.save(), engine.recorded()), before[:2], (method, arguments))
        if not any(hasattr(argument, "signatures") for argument in arguments):
            self.assertEqual(arguments, before[2])


def engine_with(*texts, hosts=()):
    """An engine with host functions of these signatures, known as "h" "0" and so on, and instances of these texts."""
    engine = Engine()
    for number, (params, results) in enumerate(hosts):
        engine.define("h", str(number), "func", engine.add_host(params, results))
    for number, text in enumerate(texts):
        made = engine.instantiate(parse(text))
        assert made == (number, None), made
        engine.publish(number, "i" + str(number))
    return engine


# A module with a host function and much of what a module can have.
FULL = """(module
  (type $v (func)) (type $p (func (param i64 i32) (result i32 i64)))
  (import "h" "0" (func $h (param i32 i64) (result i64 i32)))
  (import "h" "1" (func $k))
  (table $t 3 funcref) (memory 1 3) (tag $x (param i32)) (tag )
  (global $g (mut i64) (i64.const 70)) (global i32 (i32.const -8))
  (func $ask (param i32) (result i32) (local i64) local.get 0 i64.const -2 call $h drop drop i32.const 4)
  (func $two (result i32) i32.const 7 i32.const 9 call $ask i32.add)
  (func $trap (param i64 i32) (result i32 i64) i32.const 3 unreachable)
  (func $catch (result i32) block $b (result i32) try_table (catch $x $b) i32.const 3 call $ask drop end unreachable end i32.const 100 i32.add)
  (func $fill i32.const 0 i32.const 5 i32.const 200 memory.fill)
  (func $begin i64.const 71 global.set $g)
  (start $begin)
  (elem (table $t) (i32.const 1) func $two)
  (data (i32.const 10) "ab")
  (export "t" (table 0)) (export "m" (memory 0)) (export "x" (tag 0)) (export "y" (tag 1))
  (export "g" (global 0)) (export "c" (global 1)) (export "ask" (func 2)) (export "two" (func 3))
  (export "trap" (func 4)) (export "catch" (func 5)) (export "fill" (func 6)) (export "begin" (func 7)))"""

# The functions of the store.
HOST, EMPTY_HOST, ASK, TWO, TRAP, CATCH, FILL, BEGIN = range(8)

HOSTS = (((A, B), (B, A)), ((), ()))


def full_engine():
    return engine_with(FULL, hosts=HOSTS)


def busy_engine():
    """An engine with something of everything."""
    engine = full_engine()
    engine.instantiate(parse('(module (import "i0" "t" (table 1 funcref)) (import "i0" "m" (memory 1)) (import "i0" "g" (global (mut i64))) (import "i0" "x" (tag (param i32)))'
                             ' (import "i0" "ask" (func (param i32) (result i32))) (func (param i32) (result i32) local.get 0 call 0) (export "f" (func 1)))'))
    engine.define("d", "~ !", "func", 8)
    engine.set_table(0, 0, HOST)
    engine.write(0, 65535, [255])
    engine.set_variable(0, -2 ** 63)
    for point in ((CATCH, 7), (TWO, 4), (TWO, 0), (8, 1)):
        engine.break_at(*point)
    for func in (8, ASK, FILL):
        engine.make_fast(func)
    return engine


def states():
    """Engines in each of the five statuses, and in the middle of a memory.fill."""
    engine = busy_engine()
    yield "new", engine
    engine.call(8, (2 ** 31 - 1,))
    engine.run(1)
    engine.run(1)
    engine.set_local(0, 1, -3)
    engine.run(1)
    yield "running", engine
    engine.run(100)
    yield "asks", engine
    engine.answer_trap("call stack exhausted")
    yield "trapped behind a call", engine
    engine.call(FILL, ())
    engine.run(5)
    yield "filling", engine
    engine.run(100)
    yield "finished", engine
    engine.call(TRAP, (-1, -1))
    engine.run(100)
    yield "trapped", engine
    engine.call(EMPTY_HOST, ())
    yield "asks without a call", engine
    engine.answer_throw(0, (-2 ** 31,))
    yield "thrown", engine
    engine.call(HOST, (1, 2))
    engine.answer((-5, 6))
    yield "finished with values", engine
    engine.call(EMPTY_HOST, ())
    engine.answer_trap("unreachable")
    yield "trapped without a call", engine
    engine.call(CATCH, ())
    engine.run(2)
    yield "running again", engine


def padded(count):
    """A valid module whose file has so many bytes, which are some thousand."""
    def module(size):
        return Module(memories=((1, None),), memory_segments=((0, ("i32.const", 0), (7,) * size),))
    return module(count - len(encode(module(2000))) + 2000)

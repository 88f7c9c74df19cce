"""Loads, stores and the other instructions of memories (points 610 to 612), one step each."""
import unittest

from machines import linked, picture, started, stepped
from wasmhost.machine.outside import begin
from wasmhost.machine.state import Machine
from wasmhost.machine.step import run, step

PAGE = 65536

BOUNDS = ("trapped", "out of bounds memory access")


def i32(value):
    """The value of kind i32 with these bits."""
    return (value + 2 ** 31) % 2 ** 32 - 2 ** 31


class Case(unittest.TestCase):
    def machine(self, code, arguments=(), data=(), pages="1", head="(param i32 i32 i32)"):
        """A machine in front of the last instruction of a function, whose operands are its arguments."""
        machine = started("(module (memory " + pages + ") (func " + head + " "
                          + " ".join("local.get " + str(at) for at in range(len(arguments))) + " " + code + " unreachable))", arguments)
        for at, byte in data:
            machine.store.memories[0].write(at, [byte])
        return stepped(machine, len(arguments))

    def traps(self, machine):
        before = picture(machine)
        self.assertIs(step(machine), True)
        after = picture(machine)
        self.assertEqual((machine.status, machine.spent), (BOUNDS, before[2] + 1))
        self.assertEqual((after[0], after[3:]), (before[0], before[3:]))

    def does(self, machine, stack, place=None):
        """The next step leaves this stack and goes on to the place, or to the next one."""
        spent = machine.spent
        wanted = machine.frames[0].place + 1 if place is None else place
        self.assertIs(step(machine), True)
        self.assertEqual((machine.frames[0].stack, machine.frames[0].place), (stack, wanted))
        self.assertEqual((machine.status, machine.spent), (("running",), spent + 1))


LOADS = (
    ("i32.load", 4, -0x7b7c7d7f), ("i64.load", 8, -0x7778797a7b7c7d7f), ("i32.load8_s", 1, -0x7f), ("i32.load8_u", 1, 0x81),
    ("i32.load16_s", 2, -0x7d7f), ("i32.load16_u", 2, 0x8281), ("i64.load8_s", 1, -0x7f), ("i64.load8_u", 1, 0x81),
    ("i64.load16_s", 2, -0x7d7f), ("i64.load16_u", 2, 0x8281), ("i64.load32_s", 4, -0x7b7c7d7f), ("i64.load32_u", 4, 0x84838281),
)

STORES = (("i32.store", "i32", 4), ("i64.store", "i64", 8), ("i32.store8", "i32", 1), ("i32.store16", "i32", 2), ("i64.store8", "i64", 1),
          ("i64.store16", "i64", 2), ("i64.store32", "i64", 4))


class Loads(Case):
    def load(self, name, address, offset=0, data=(), pages="1"):
        return self.machine(name + " offset=" + str(offset), (address,), data, pages, "(param i32)")

    def test_each_width(self):
        for name, count, value in LOADS:
            for at in (0, 5, PAGE - count):
                data = [(at + k, 0x81 + k) for k in range(count)]
                # The neighbours do not count.
                around = [(place, 0x77) for place in (at - 1, at + count) if 0 <= place < PAGE]
                for offset in (0, 1, at):
                    if offset <= at:
                        self.does(self.load(name, at - offset, offset, data + around), [value])

    def test_small_numbers(self):
        for name, count, _ in LOADS:
            data = [(k, k + 1) for k in range(8)]
            self.does(self.load(name, 0, 0, data), [sum((k + 1) * 256 ** k for k in range(count))])
            self.does(self.load(name, 100, 0, data), [0])

    def test_all_bits(self):
        for name, count, _ in LOADS:
            self.does(self.load(name, 8, 0, [(8 + k, 255) for k in range(count)]), [256 ** count - 1 if name.endswith("_u") else -1])

    def test_beyond_the_end(self):
        for name, count, _ in LOADS:
            for address, offset in ((PAGE - count + 1, 0), (PAGE - 1, 8), (PAGE, 0), (0, PAGE - count + 1), (1, PAGE - count), (-1, 0), (-1, 1),
                                    (-PAGE, PAGE), (0, 4294967295), (1, 4294967295), (-1, 4294967295), (2 ** 31 - 1, 2 ** 31 + 1)):
                self.traps(self.load(name, address, offset))
            self.traps(self.load(name, 0, 0, (), "0"))

    def test_values_below_stay(self):
        machine = started("(module (memory 1) (func i64.const 7 i32.const 0 i32.load unreachable))")
        stepped(machine, 3)
        self.assertEqual(machine.frames[0].stack, [7, 0])

    def test_sixteen_pages(self):
        self.does(self.load("i32.load", 16 * PAGE - 4, 0, [(16 * PAGE - 4, 1)], "16"), [1])
        self.does(self.load("i32.load", 0, 16 * PAGE - 4, [(16 * PAGE - 4, 1)], "16"), [1])
        self.traps(self.load("i32.load", 16 * PAGE - 3, 0, (), "16"))


class Stores(Case):
    def store(self, name, kind, address, value, offset=0, pages="1", data=()):
        return self.machine(name + " offset=" + str(offset), (address, value), data, pages, "(param i32 " + kind + ")")

    def test_each_width(self):
        value = 0x0807060504030201
        for name, kind, count in STORES:
            for at in (0, 6, PAGE - count):
                for sign in (1, -1):
                    number = value if kind == "i64" else 0x04030201
                    machine = self.store(name, kind, at, sign * number)
                    self.does(machine, [])
                    expected = [(sign * number) // 256 ** k % 256 for k in range(count)]
                    self.assertEqual(machine.store.memories[0].cells, {at + k: byte for k, byte in enumerate(expected) if byte})

    def test_zeros_and_neighbours(self):
        for name, kind, count in STORES:
            data = [(k, 9) for k in range(20)]
            machine = self.store(name, kind, 2, 0, 3, "1", data)
            self.does(machine, [])
            self.assertEqual(machine.store.memories[0].cells, {k: 9 for k in range(20) if not 5 <= k < 5 + count})

    def test_beyond_the_end(self):
        for name, kind, count in STORES:
            for address, offset in ((PAGE - count + 1, 0), (PAGE, 0), (0, PAGE - count + 1), (-1, 0), (-1, 1), (1, 4294967295), (0, 4294967295),
                                    (-4, 4)):
                self.traps(self.store(name, kind, address, -1, offset))
            self.traps(self.store(name, kind, 0, 1, 0, "0"))

    def test_values_below_stay(self):
        machine = started("(module (memory 1) (func i64.const 7 i32.const 0 i32.const 5 i32.store unreachable))")
        stepped(machine, 4)
        self.assertEqual((machine.frames[0].stack, machine.store.memories[0].cells), ([7], {0: 5}))


class Sizes(Case):
    def test_size(self):
        for pages in ("0", "1", "16", "3 7"):
            machine = started("(module (memory " + pages + ") (func memory.size unreachable))")
            self.does(machine, [int(pages.split()[0])])

    def grow(self, pages, count):
        machine = self.machine("memory.grow", (count,), [(5, 6)] if pages[0] != "0" else [], pages, "(param i32)")
        first = int(pages.split()[0])
        return machine, first

    def test_growing(self):
        for pages, count in (("1", 0), ("1", 1), ("1", 15), ("0", 16), ("0", 0), ("16", 0), ("2 5", 3), ("2 5", 1), ("0 0", 0), ("3 3", 0), ("1 100", 15)):
            machine, first = self.grow(pages, count)
            cells = dict(machine.store.memories[0].cells)
            self.does(machine, [first])
            self.assertEqual((machine.store.memories[0].pages, machine.store.memories[0].cells), (first + count, cells))

    def test_beyond_the_greatest_number(self):
        for pages, count in (("1", 16), ("0", 17), ("16", 1), ("2 5", 4), ("0 0", 1), ("3 3", 1), ("1 100", 16), ("1", -1), ("1", -2147483648), ("0", 2147483647),
                             ("1", -65535)):
            machine, first = self.grow(pages, count)
            before = picture(machine)[5]
            self.does(machine, [-1])
            self.assertEqual(picture(machine)[5], before)

    def test_new_pages_can_be_used(self):
        machine = started("""(module (memory 1 2) (func i32.const 1 memory.grow drop i32.const 131068 i32.const -1 i32.store i32.const 131068 i32.load
                             memory.size unreachable))""")
        stepped(machine, 9)
        self.assertEqual(machine.frames[0].stack, [-1, 2])


class BelowTheOperands(unittest.TestCase):
    def test_values_stay(self):
        for code, given in (("i32.const 1 memory.grow", [-1]), ("memory.size", [1]), ("i32.const 3 i32.const 2 i32.const 0 select", [2]),
                            ("i32.const 1 i32.const 2 i32.const 0 memory.fill", []), ("i32.const 0 i32.const 0 i32.const 0 memory.copy", []),
                            ("i32.const 0 i32.const 2 i32.const 65 memory.fill", [64, 2, 1]), ("i32.const 9 i32.const 2 i32.const 65 memory.copy", [9, 2, 1]),
                            ("i32.const 0 i32.load8_u", [0]), ("i32.const 0 i32.const 0 i32.store8", [])):
            machine = started("(module (memory 1 1) (func i64.const 7 i32.const 8 " + code + " unreachable))")
            stepped(machine, 2 + code.count("const") + 1)
            self.assertEqual(machine.frames[0].stack, [7, 8] + given, code)


class Fill(Case):
    def fill(self, address, value, count, pages="1", data=()):
        return self.machine("memory.fill", (address, value, count), data, pages)

    def test_one_step(self):
        for count in (0, 1, 63, 64):
            for address in (0, 100, PAGE - count):
                for value, byte in ((7, 7), (-1, 255), (256, 0), (0x1ff, 255), (-256, 0), (-2147483648 + 5, 5)):
                    machine = self.fill(address, value, count, "1", [(3, 9)])
                    self.does(machine, [])
                    expected = {3: 9}
                    expected.update({address + k: byte for k in range(count)})
                    self.assertEqual(machine.store.memories[0].cells, {at: byte for at, byte in expected.items() if byte})

    def test_several_steps(self):
        machine = self.fill(1000, -2, 200)
        for done in (64, 128, 192):
            self.does(machine, [1000 + done, -2, 200 - done], 3)
            self.assertEqual(machine.store.memories[0].cells, {1000 + k: 254 for k in range(done)})
        self.does(machine, [])
        self.assertEqual(machine.store.memories[0].cells, {1000 + k: 254 for k in range(200)})

    def test_sixty_five(self):
        machine = self.fill(0, 1, 65)
        self.does(machine, [64, 1, 1], 3)
        self.does(machine, [])
        self.assertEqual(len(machine.store.memories[0].cells), 65)

    def test_a_hundred_and_twenty_eight(self):
        machine = self.fill(0, 1, 128)
        self.does(machine, [64, 1, 64], 3)
        self.does(machine, [])
        self.assertEqual(len(machine.store.memories[0].cells), 128)

    def test_up_to_the_end_and_beyond(self):
        machine = self.fill(PAGE - 100, 5, 100)
        self.does(machine, [PAGE - 36, 5, 36], 3)
        self.does(machine, [])
        for address, count in ((PAGE - 100, 101), (PAGE, 1), (PAGE + 1, 0), (-1, 0), (-1, 1), (0, -1), (0, PAGE + 1), (-1, -1), (1, PAGE), (-2147483648, 0)):
            self.traps(self.fill(address, 5, count))
        self.does(self.fill(PAGE, 5, 0), [])
        self.does(self.fill(0, 5, 0, "0"), [])
        self.traps(self.fill(1, 5, 0, "0"))

    def test_a_whole_page(self):
        machine = self.fill(0, 3, PAGE)
        self.assertEqual(run(machine, 1024), 1024)
        self.assertEqual((machine.frames[0].stack, machine.frames[0].place, len(machine.store.memories[0].cells)), ([], 4, PAGE))


class Copy(Case):
    def copy(self, target, origin, count, pages="1"):
        machine = self.machine("memory.copy", (target, origin, count), (), pages)
        if pages != "0":
            machine.store.memories[0].write(0, [k * 7 % 256 for k in range(1000)])
        return machine

    def bytes(self, machine, at, count):
        return machine.store.memories[0].read(at, count)

    def test_one_step(self):
        for count in (0, 1, 63, 64):
            for target, origin in ((500, 0), (0, 500), (10, 0), (0, 10), (7, 7), (PAGE - count, 3), (3, PAGE - count)):
                machine = self.copy(target, origin, count)
                before = self.bytes(machine, 0, PAGE)
                self.does(machine, [])
                expected = list(before)
                expected[target:target + count] = before[origin:origin + count]
                self.assertEqual(self.bytes(machine, 0, PAGE), expected)

    def check_steps(self, target, origin, count, *stacks):
        """The stacks behind the steps but the last one; the bytes behind all are those of a copy at once."""
        machine = self.copy(target, origin, count)
        before = self.bytes(machine, 0, 3000)
        for stack in stacks:
            self.does(machine, stack, 3)
        self.does(machine, [])
        expected = list(before)
        expected[target:target + count] = before[origin:origin + count]
        self.assertEqual(self.bytes(machine, 0, 3000), expected)

    def test_from_the_front(self):
        for target, origin in ((0, 500), (0, 10), (3, 67), (5, 5)):
            self.check_steps(target, origin, 65, [target + 64, origin + 64, 1])
            self.check_steps(target, origin, 200, *[[target + k, origin + k, 200 - k] for k in (64, 128, 192)])

    def test_from_the_back(self):
        for target, origin in ((500, 0), (10, 0), (67, 3), (1, 0)):
            self.check_steps(target, origin, 65, [target, origin, 1])
            self.check_steps(target, origin, 200, [target, origin, 136], [target, origin, 72], [target, origin, 8])

    def test_what_one_step_copies(self):
        machine = self.copy(2000, 100, 100)
        step(machine)
        self.assertEqual(self.bytes(machine, 2000, 36), [0] * 36)
        self.assertEqual(self.bytes(machine, 2036, 64), self.bytes(machine, 136, 64))
        machine = self.copy(100, 2000, 100)
        step(machine)
        self.assertEqual(self.bytes(machine, 100, 64), [0] * 64)
        self.assertEqual(self.bytes(machine, 164, 2), [164 * 7 % 256, 165 * 7 % 256])

    def test_up_to_the_end_and_beyond(self):
        for target, origin, count in ((PAGE - 100, 0, 100), (0, PAGE - 100, 100), (PAGE - 100, PAGE - 100, 100), (PAGE, PAGE, 0), (PAGE, 0, 0), (0, PAGE, 0)):
            machine = self.copy(target, origin, count)
            run(machine, 1 + (count > 64))
            self.assertEqual((machine.frames[0].place, machine.frames[0].stack), (4, []))
        for target, origin, count in ((PAGE - 100, 0, 101), (0, PAGE - 100, 101), (PAGE + 1, 0, 0), (0, PAGE + 1, 0), (-1, 0, 0), (0, -1, 0), (0, 0, -1),
                                      (-1, -1, 0), (PAGE, 0, 1), (0, PAGE, 1), (0, 0, PAGE + 1), (1, 0, PAGE), (0, 1, PAGE)):
            self.traps(self.copy(target, origin, count))
        self.does(self.copy(0, 0, 0, "0"), [])
        self.traps(self.copy(1, 0, 0, "0"))
        self.traps(self.copy(0, 1, 0, "0"))

    def test_a_whole_page(self):
        machine = self.copy(1, 0, PAGE - 1)
        before = self.bytes(machine, 0, PAGE)
        self.assertEqual(run(machine, 1024), 1024)
        self.assertEqual((machine.frames[0].place, machine.frames[0].stack), (4, []))
        self.assertEqual(self.bytes(machine, 0, PAGE), before[:1] + before[:-1])


class OtherInstances(unittest.TestCase):
    def test_the_memory_of_the_frame(self):
        store = linked("(module (memory 1) (func i32.const 0 i32.const 1 i32.store))")
        linked("(module (memory 2) (func i32.const 0 i32.const 2 i32.store))", store)
        linked('(module (import "" "" (memory 1)) (func i32.const 4 i32.const 3 i32.store memory.size drop))', store, (1,))
        machine = Machine(store)
        for func in (1, 2, 0):
            begin(machine, func, ())
            run(machine, 10)
        self.assertEqual([memory.cells for memory in store.memories], [{0: 1}, {0: 2, 4: 3}])

    def test_operands_have_signs(self):
        # A value keeps its sign between the steps.
        machine = started("(module (memory 1) (func i32.const 0 i32.const -1 i32.const 100 memory.fill))")
        stepped(machine, 4)
        self.assertEqual(machine.frames[0].stack, [64, -1, 36])
        self.assertTrue(all(value == i32(value) for value in machine.frames[0].stack))


if __name__ == "__main__":
    unittest.main()

"""Another interpreter for the functions of a store: it goes through the bodies of a module, block by block."""
from random_valid import answer_of
from wasmhost.instructions import ACCESS_BITS, BLOCKS, shape_kinds
from wasmhost.numbers import calculate, signature_of
from wasmhost.errors import Trap

PAGE = 65536


class Branch(Exception):
    def __init__(self, label):
        self.label = label


class Return(Exception):
    pass


class Thrown(Exception):
    def __init__(self, tag, values):
        self.tag, self.values = tag, values


class Trapped(Exception):
    pass


class Stopped(Exception):
    """As many steps have been done as are allowed."""


def signed(bits, number):
    number %= 2 ** bits
    return number - 2 ** bits if number >= 2 ** (bits - 1) else number


class Oracle:
    def __init__(self, store, most):
        self.store = store
        self.most = most
        self.spent = 0
        self.depth = 0
        self.memories = [bytearray(memory.read(0, memory.size())) for memory in store.memories]
        self.variables = [row.value for row in store.variables]

    def run(self, func, arguments):
        """The status at the end, or None if the steps did not suffice."""
        try:
            return "finished", tuple(self.call(func, list(arguments)))
        except Stopped:
            return None
        except Trapped as trap:
            return "trapped", trap.args[0]
        except Thrown as thrown:
            return "thrown", thrown.tag, thrown.values

    def tick(self):
        if self.spent == self.most:
            raise Stopped()
        self.spent += 1

    def call(self, func, arguments):
        row = self.store.functions[func]
        if row[0] == "host":
            return self.ask(row[1], tuple(arguments))
        if self.depth == 64:
            raise Trapped("call stack exhausted")
        instance = self.store.instances[row[1]]
        _, own, body = instance.module.functions[row[2]]
        self.depth += 1
        stack = []
        try:
            Call(self, instance, arguments + [0] * len(own), stack).body(body)
        except (Return, Branch):
            pass
        finally:
            self.depth -= 1
        return stack[len(stack) - len(row[3][1]):]

    def ask(self, number, values):
        if self.spent == self.most:
            # The machine asks behind its last step, and is not answered any more.
            raise Stopped()
        word, *rest = answer_of(self.store, number, values)
        if word == "throw":
            raise Thrown(*rest)
        if word == "trap":
            raise Trapped(*rest)
        return list(rest[0])


class Call:
    def __init__(self, oracle, instance, slots, stack):
        self.oracle, self.instance, self.slots, self.stack = oracle, instance, slots, stack
        self.signatures = instance.module.signatures

    def pop(self):
        return self.stack.pop()

    def take(self, count):
        found = self.stack[len(self.stack) - count:]
        del self.stack[len(self.stack) - count:]
        return found

    def word(self):
        return self.pop() % 2 ** 32

    def body(self, body):
        for instruction in body:
            self.oracle.tick()
            if instruction[0] in BLOCKS:
                self.block(instruction)
            else:
                self.plain(instruction)
        self.oracle.tick()

    def block(self, instruction):
        name, shape = instruction[:2]
        params, results = shape_kinds(self.signatures, shape)
        body = instruction[-1]
        if name == "if":
            body = instruction[2] if self.pop() != 0 else instruction[3]
        low = len(self.stack) - len(params)
        count = len(params) if name == "loop" else len(results)
        while True:
            try:
                if name == "try_table":
                    self.guarded(instruction[2], body, low)
                else:
                    self.body(body)
                return
            except Branch as branch:
                if branch.label > 0:
                    raise Branch(branch.label - 1) from None
                self.stack[low:] = self.take(count)
            if name != "loop":
                return
            self.oracle.tick()

    def guarded(self, catches, body, low):
        depth = self.oracle.depth
        try:
            self.body(body)
        except Thrown as thrown:
            self.oracle.depth = depth
            for tag, label in catches:
                if tag is None or self.instance.tags[tag] == thrown.tag:
                    self.stack[low:] = [] if tag is None else list(thrown.values)
                    # Labels of catches count from the outside of the try_table, which passes on its own label first.
                    raise Branch(label + 1) from None
            raise

    def plain(self, instruction):
        name = instruction[0]
        if name in ("br", "return", "br_if", "br_table"):
            self.leave(instruction)
        elif name in ("call", "call_indirect", "throw", "unreachable"):
            self.other(instruction)
        elif name.startswith("local"):
            self.local(instruction)
        elif name.startswith("global"):
            at = self.instance.variables[instruction[1]]
            if name == "global.get":
                self.stack.append(self.oracle.variables[at])
            else:
                self.oracle.variables[at] = self.pop()
        elif name in ACCESS_BITS or name.startswith("memory"):
            self.memory(instruction)
        elif name == "drop":
            self.pop()
        elif name == "select":
            condition, upper, lower = self.pop(), self.pop(), self.pop()
            self.stack.append(lower if condition else upper)
        elif name.endswith("const"):
            self.stack.append(instruction[1])
        elif name != "nop":
            operands = tuple(self.take(len(signature_of(name)[0])))
            try:
                self.stack.append(calculate(name, operands))
            except Trap as trap:
                raise Trapped(trap.reason) from None

    def leave(self, instruction):
        name = instruction[0]
        if name == "return":
            raise Return()
        if name == "br":
            raise Branch(instruction[1])
        if name == "br_if":
            if self.pop():
                raise Branch(instruction[1])
        else:
            labels = instruction[1] + (instruction[2],)
            raise Branch(labels[min(self.word(), len(labels) - 1)])

    def other(self, instruction):
        name = instruction[0]
        store = self.oracle.store
        if name == "unreachable":
            raise Trapped("unreachable")
        if name == "throw":
            tag = self.instance.tags[instruction[1]]
            raise Thrown(tag, tuple(self.take(len(store.tags[tag][0]))))
        if name == "call":
            func = self.instance.functions[instruction[1]]
        else:
            entries = store.tables[self.instance.tables[instruction[2]]].entries
            at = self.word()
            if at >= len(entries):
                raise Trapped("undefined element")
            func = entries[at]
            if func is None:
                raise Trapped("uninitialized element")
            if store.functions[func][-1] != self.signatures[instruction[1]]:
                raise Trapped("indirect call mismatch")
        self.stack.extend(self.oracle.call(func, self.take(len(store.functions[func][-1][0]))))

    def local(self, instruction):
        name, at = instruction
        if name == "local.get":
            self.stack.append(self.slots[at])
        else:
            self.slots[at] = self.stack[-1]
            if name == "local.set":
                self.pop()

    def memory(self, instruction):
        name = instruction[0]
        number = self.instance.memories[0]
        data = self.oracle.memories[number]
        if name == "memory.size":
            self.stack.append(len(data) // PAGE)
        elif name == "memory.grow":
            count = self.word()
            self.stack.append(len(data) // PAGE)
            if len(data) // PAGE + count > self.oracle.store.memories[number].most:
                self.stack[-1] = -1
            else:
                data.extend(bytes(count * PAGE))
        elif name.startswith("memory"):
            self.move(name, data)
        else:
            self.access(name, instruction[2], data)

    def access(self, name, offset, data):
        count = ACCESS_BITS[name] // 8
        value = self.pop() if "store" in name else None
        at = self.word() + offset
        if at + count > len(data):
            raise Trapped("out of bounds memory access")
        if value is not None:
            data[at:at + count] = (value % 256 ** count).to_bytes(count, "little")
        else:
            number = int.from_bytes(data[at:at + count], "little", signed=not name.endswith("_u"))
            self.stack.append(number)

    def move(self, name, data):
        count, second, target = self.word(), self.word(), self.word()
        if target + count > len(data) or name == "memory.copy" and second + count > len(data):
            raise Trapped("out of bounds memory access")
        wanted = bytes([second % 256]) * count if name == "memory.fill" else bytes(data[second:second + count])
        backwards = name == "memory.copy" and target > second
        done = min(count, 64)
        while True:
            if backwards:
                data[target + count - done:target + count] = wanted[count - done:]
            else:
                data[target:target + done] = wanted[:done]
            if done == count:
                return
            self.oracle.tick()
            done = min(count, done + 64)

"""Valid modules that are chosen at random, but the same ones each time, and stores into which they are linked."""
from support import ACCESS_OPCODES
from wasmhost.access import write_table
from wasmhost.check.modules import check
from wasmhost.instructions import ACCESS_BITS
from wasmhost.link import add_host, link
from wasmhost.modules import Module
from wasmhost.numbers import INSTRUCTIONS, signature_of
from wasmhost.store import Store

A, B = "i32", "i64"

SIGNATURES = (((), ()), ((A,), (A,)), ((A, B), (B,)), ((B,), ()), ((), (A, B)), ((A,), ()), ((), (A,)), ((), (B,)), ((B, A), (A, B)))

# The signatures of tags, and for each of them a shape without parameters that leaves what the tag takes.
TAGS = {0: None, 5: A, 3: B}

ACCESS = tuple(name for _, name in ACCESS_OPCODES)


class Maker:
    """Makes a module. `imports` are its imports, whose indexes of signatures are those of SIGNATURES."""

    def __init__(self, choices, imports):
        self.choices = choices
        self.imports = imports
        pick = choices.choice
        self.own_functions = [pick(range(len(SIGNATURES))) for _ in range(choices.randint(1, 4))]
        self.own_tags = [pick(list(TAGS)) for _ in range(choices.randint(0, 2))]
        self.own_variables = [(kind, pick((True, True, False)), (kind + ".const", self.number(kind))) for kind in (A, B, pick((A, B)))]
        self.own_tables = [(choices.randint(1, 5), None)]
        self.functions = self.whats("func") + self.own_functions
        self.tags = self.whats("tag") + self.own_tags
        self.variables = self.whats("global") + [row[:2] for row in self.own_variables]
        self.tables = len(self.whats("table")) + 1
        self.own_memories = () if self.whats("memory") else ((choices.randint(0, 2), pick((None, 2, 3))),)

    def whats(self, kind):
        return [row[3] for row in self.imports if row[2] == kind]

    def number(self, kind):
        half = 2 ** 31 if kind == A else 2 ** 63
        pick = self.choices.choice
        return pick((0, 1, 2, -1, 3, 7, pick((half - 1, -half)), self.choices.randint(-300, 300), self.choices.randint(-half, half - 1)))

    def chance(self, percent):
        return self.choices.randint(0, 99) < percent

    def make(self):
        functions = []
        for index in self.own_functions:
            own = tuple(self.choices.choice((A, B)) for _ in range(self.choices.randint(0, 3)))
            params, results = SIGNATURES[index]
            self.slots = params + own
            self.results = results
            self.labels = [results]
            functions.append((index, own, self.body((), results, 3)))
        count = len(self.functions)
        segments = tuple((self.choices.randrange(self.tables), (A + ".const", 0), (self.choices.randrange(count),)) for _ in range(2))
        data = ((0, (A + ".const", self.choices.randint(0, 70)), tuple(self.choices.randint(0, 255) for _ in range(9))),)
        memories = self.own_memories
        module = Module(
            signatures=SIGNATURES, imports=tuple(self.imports), functions=tuple(functions), tables=tuple(self.own_tables), memories=memories,
            tags=tuple(self.own_tags), variables=tuple(self.own_variables), table_segments=segments,
            memory_segments=data if memories and memories[0][0] else (), exports=(("f", "func", count - 1),),
            start=next((at for at, index in enumerate(self.functions) if index == 0), None))
        assert check(module) is None, check(module)
        return module

    # Code is written into `self.out`; `self.have` are the kinds on the stack of the body.

    def put(self, instruction, taken=(), given=()):
        self.out.append(instruction)
        del self.have[len(self.have) - len(taken):]
        self.have.extend(given)

    def body(self, params, results, depth):
        outer = getattr(self, "out", None), getattr(self, "have", None)
        self.out, self.have = [], list(params)
        for _ in range(self.choices.randint(1, 7)):
            self.instruction(depth)
        if self.have != list(results):
            while self.have:
                self.put(("drop",), (self.have[-1],))
            for kind in results:
                self.push(kind)
        found = tuple(self.out)
        self.out, self.have = outer
        return found

    def push(self, kind):
        slots = [at for at, found in enumerate(self.slots) if found == kind]
        variables = [at for at, row in enumerate(self.variables) if row[0] == kind]
        if slots and self.chance(40):
            self.put(("local.get", self.choices.choice(slots)), (), (kind,))
        elif variables and self.chance(30):
            self.put(("global.get", self.choices.choice(variables)), (), (kind,))
        else:
            self.put((kind + ".const", self.number(kind)), (), (kind,))

    def need(self, kinds):
        kinds = list(kinds)
        if kinds and self.have[len(self.have) - len(kinds):] == kinds and self.chance(70):
            return
        for kind in kinds:
            self.push(kind)

    def small(self, most):
        """Puts an i32 that is small most of the time."""
        value = self.choices.randint(0, most) if self.chance(90) else self.number(A)
        self.put((A + ".const", value), (), (A,))

    def instruction(self, depth):
        words = ["push"] * 3 + ["numeric"] * 4 + ["local"] * 3 + ["global", "drop", "select", "access", "access", "memory", "call", "call", "branch", "rare",
                                                                   "nop"]
        if depth > 0:
            words += ["block"] * 4 + ["catch"] * 2
        getattr(self, "do_" + self.choices.choice(words))(depth)

    def do_nop(self, depth):
        self.put(("nop",))

    def do_push(self, depth):
        self.push(self.choices.choice((A, B)))

    def do_numeric(self, depth):
        name = self.choices.choice(INSTRUCTIONS)
        if ("div" in name or "rem" in name) and self.chance(50):
            name = name[:4] + "xor"
        params, results = signature_of(name)
        self.need(params)
        self.put((name,), params, results)

    def do_local(self, depth):
        if self.slots:
            at = self.choices.randrange(len(self.slots))
            kind = self.slots[at]
            word = self.choice_of("local.get", "local.set", "local.tee")
            if word == "local.get":
                self.put((word, at), (), (kind,))
            else:
                self.need((kind,))
                self.put((word, at), (kind,), (kind,) if word == "local.tee" else ())

    def choice_of(self, *words):
        return self.choices.choice(words)

    def do_global(self, depth):
        at = self.choices.randrange(len(self.variables))
        kind, mutable = self.variables[at]
        if mutable:
            self.need((kind,))
            self.put(("global.set", at), (kind,))

    def do_drop(self, depth):
        if self.have:
            self.put(("drop",), (self.have[-1],))

    def do_select(self, depth):
        kind = self.choices.choice((A, B))
        self.need((kind, kind, A))
        self.put(("select",), (kind, kind, A), (kind,))

    def do_access(self, depth):
        name = self.choices.choice(ACCESS)
        kind = name[:3]
        if self.chance(85):
            self.small(200)
        else:
            self.need((A,))
        offset = self.choices.choice((0, 1, 3, 8, 60, 65530, 4294967295)) if self.chance(25) else 0
        exponent = self.choices.randint(0, {8: 0, 16: 1, 32: 2, 64: 3}[ACCESS_BITS[name]])
        if "load" in name:
            self.put((name, exponent, offset), (A,), (kind,))
        else:
            self.push(kind)
            self.put((name, exponent, offset), (A, kind))

    def do_memory(self, depth):
        word = self.choice_of("memory.size", "memory.grow", "memory.fill", "memory.copy")
        if word == "memory.size":
            self.put((word,), (), (A,))
        elif word == "memory.grow":
            self.small(2)
            self.put((word,), (A,), (A,))
        else:
            for most in (150, 150, 260):
                self.small(most)
            self.put((word,), (A, A, A))

    def do_call(self, depth):
        if self.chance(60):
            at = self.choices.randrange(len(self.functions))
            params, results = SIGNATURES[self.functions[at]]
            self.need(params)
            self.put(("call", at), params, results)
        else:
            index = self.choices.choice(self.functions)
            params, results = SIGNATURES[index]
            self.need(params)
            self.small(3)
            self.put(("call_indirect", index, self.choices.randrange(self.tables)), params + (A,), results)

    def loose(self):
        """Behind an instruction that makes the body loose."""
        del self.have[:]

    def do_branch(self, depth):
        word = self.choice_of("br", "br_if", "br_if", "br_table")
        label = self.choices.randrange(len(self.labels))
        kinds = self.labels[-1 - label]
        self.need(kinds)
        if word == "br":
            self.out.append((word, label))
            self.loose()
        elif word == "br_if":
            self.need((A,)) if self.have[-1:] == [A] and not kinds else self.push(A)
            self.put((word, label), (A,))
        else:
            others = [at for at in range(len(self.labels)) if self.labels[-1 - at] == kinds]
            self.small(3)
            self.out.append((word, tuple(self.choices.choice(others) for _ in range(self.choices.randint(0, 3))), label))
            self.loose()

    def do_rare(self, depth):
        word = self.choice_of("unreachable", "return", "throw", "throw", "throw", "nop", "nop")
        if word == "nop" or word == "throw" and not self.tags:
            return
        if word == "return":
            self.need(self.results)
        if word == "throw":
            tag = self.choices.randrange(len(self.tags))
            self.need(SIGNATURES[self.tags[tag]][0])
            self.out.append((word, tag))
        else:
            self.out.append((word,))
        self.loose()

    def inner(self, params, results, label, depth):
        self.labels.append(label)
        found = self.body(params, results, depth - 1)
        self.labels.pop()
        return found

    def do_block(self, depth):
        shape = self.choices.choice((None, None, A, B) + tuple(range(len(SIGNATURES))))
        params, results = ((), ()) if shape is None else ((), (shape,)) if shape in (A, B) else SIGNATURES[shape]
        word = self.choice_of("block", "loop", "if", "if", "try_table")
        self.need(params)
        if word == "if":
            self.push(A)
        catches = self.catches()
        label = params if word == "loop" else results
        outer = self.have
        first = self.inner(params, results, label, depth)
        second = self.inner(params, results, label, depth) if word == "if" else None
        assert self.have is outer
        taken = params + (A,) if word == "if" else params
        if word == "if":
            self.put((word, shape, first, second), taken, results)
        elif word == "try_table":
            self.put((word, shape, catches, first), taken, results)
        else:
            self.put((word, shape, first), taken, results)

    def catches(self):
        """Catches whose labels, counted from here, take what they give."""
        found = []
        for label in range(len(self.labels)):
            kinds = self.labels[-1 - label]
            fitting = [tag for tag, index in enumerate(self.tags) if SIGNATURES[index][0] == kinds]
            if fitting and self.chance(40):
                found.append((self.choices.choice(fitting), label))
            if kinds == () and self.chance(20):
                found.append((None, label))
        self.choices.shuffle(found)
        return tuple(found)

    def do_catch(self, depth):
        """A block around a try_table with a catch for the block."""
        if not self.tags:
            return
        tag = self.choices.randrange(len(self.tags))
        shape = TAGS[self.tags[tag]]
        kinds = SIGNATURES[self.tags[tag]][0]
        self.labels.append(kinds)
        found = self.catches()
        inside = self.inner((), (), (), depth)
        self.labels.pop()
        rest = tuple((kind + ".const", self.number(kind)) for kind in kinds)
        self.put(("block", shape, (("try_table", None, found + ((tag, 0),), inside),) + rest), (), kinds)


def host_imports(choices, hosts):
    """Imports of some host functions, and the numbers that they find."""
    rows, found = [], []
    for func, index in hosts:
        if choices.randint(0, 2) > 0:
            rows.append(("host", "h" + str(func), "func", index))
            found.append(func)
    return rows, found


def shared_imports(choices, store, others):
    """Imports of items of earlier instances, and the numbers that they find."""
    rows, found = [], []
    for instance in others:
        module = instance.module
        for kind, numbers in (("func", instance.functions), ("tag", instance.tags), ("global", instance.variables), ("table", instance.tables),
                              ("memory", instance.memories)):
            if not numbers or choices.randint(0, 1) == 0 or kind == "memory" and any(row[2] == "memory" for row in rows):
                continue
            number = choices.choice(numbers)
            if kind == "func":
                what = SIGNATURES.index(store.functions[number][-1])
            elif kind == "tag":
                what = SIGNATURES.index(store.tags[number])
            elif kind == "global":
                what = (store.variables[number].kind, store.variables[number].mutable)
            elif kind == "table":
                what = (len(store.tables[number].entries), None)
            else:
                what = (store.memories[number].pages, None)
            assert module is not None
            rows.append(("shared", kind + str(number), kind, what))
            found.append(number)
    return rows, found


def random_store(choices):
    """A store with host functions and one to three instances that import from each other."""
    store = Store()
    hosts = []
    for _ in range(choices.randint(0, 3)):
        index = choices.randrange(len(SIGNATURES))
        hosts.append((add_host(store, *SIGNATURES[index]), index))
    for _ in range(choices.randint(1, 3)):
        rows, found = host_imports(choices, hosts)
        more, others = shared_imports(choices, store, store.instances)
        module = Maker(choices, rows + more).make()
        link(store, module, tuple(found + others))
    for table, row in enumerate(store.tables):
        for at in range(len(row.entries)):
            if choices.randint(0, 2) > 0:
                write_table(store, table, at, choices.randrange(len(store.functions)))
    return store


def random_values(choices, kinds):
    found = []
    for kind in kinds:
        half = 2 ** 31 if kind == A else 2 ** 63
        found.append(choices.choice((0, 1, 2, 5, -1, choices.randint(-100, 100), choices.randint(-half, half - 1))))
    return tuple(found)


def answer_of(store, number, values):
    """What the host answers: always the same for the same arguments."""
    _, _, (_, results) = next(row for row in store.functions if row[:2] == ("host", number))
    total = sum(values) + number
    if total % 7 == 3 and store.tags:
        tag = total % len(store.tags)
        return "throw", tag, tuple(total % 100 for _ in store.tags[tag][0])
    if total % 11 == 5:
        return "trap", "integer overflow"
    return "values", tuple(total % 200 - 100 + at for at in range(len(results)))

"""The walk through the code of a function, place by place."""

from wasmhost.check.effects import effect_of
from wasmhost.check.kind_stack import KindStack, agree
from wasmhost.check.scope import CodeFault, Scope
from wasmhost.instructions import BLOCKS, bodies_of

LOOSENING = ("br", "br_table", "return", "throw", "unreachable")


class Walker:
    """A walk through the code of one function.

    `seen` is the list of the stacks in front of the places, up to and including the first fault, and `reason` is the
    reason of this fault, or None.
    """

    def __init__(self, module, signature, own_kinds):
        self.scope = Scope(module, signature, own_kinds)
        self.stack = KindStack()
        self.seen = []
        self.reason = None

    def walk(self, body):
        """Walks through the body of the function."""
        results = self.scope.results
        try:
            self.walk_body(body, (), results, results)
        except CodeFault as fault:
            self.reason = fault.reason

    def mark(self):
        """Notes the stack in front of the next place."""
        self.seen.append(self.stack.shown())

    def walk_body(self, body, params, results, label):
        """Checks a body, which begins with the parameters, leaves the results, and has a label for these kinds."""
        self.scope.labels.append(label)
        self.stack.enter(params)
        for instruction in body:
            self.mark()
            self.walk_instruction(instruction)
        self.mark()
        self.stack.leave(results)
        self.scope.labels.pop()

    def walk_instruction(self, instruction):
        """Checks an instruction with the bodies inside of it."""
        name = instruction[0]
        if name in BLOCKS:
            self.walk_block(instruction)
        elif name == "select":
            self.choose()
        elif name == "br_table":
            self.branch_by_table(instruction)
        else:
            taken, given = effect_of(self.scope, instruction)
            self.stack.take(taken)
            self.stack.put(given)
        if name in LOOSENING:
            self.stack.loosen()

    def choose(self):
        """Checks a select."""
        self.stack.take(("i32",))
        upper = self.stack.take_any()
        lower = self.stack.take_any()
        if not agree(lower, upper):
            raise CodeFault("kind mismatch")
        if lower is None:
            lower = upper
        self.stack.put((lower,))

    def branch_by_table(self, instruction):
        """Checks a br_table."""
        _, labels, default = instruction
        rows = [self.scope.label(label) for label in labels + (default,)]
        self.stack.take(("i32",))
        for kinds in rows:
            if len(kinds) != len(rows[0]):
                raise CodeFault("kind mismatch")
            self.stack.need(kinds)

    def check_catch(self, tag, label):
        """Checks a catch of a try_table."""
        kinds = self.scope.label(label)
        carried = ()
        if tag is not None:
            carried = self.scope.tag(tag)
        if kinds != carried:
            raise CodeFault("kind mismatch")

    def walk_block(self, instruction):
        """Checks an instruction with code."""
        name = instruction[0]
        params, results = self.scope.shape(instruction[1])
        if name == "if":
            self.stack.take(("i32",))
        self.stack.take(params)
        if name == "try_table":
            for tag, label in instruction[2]:
                self.check_catch(tag, label)
        kinds = results
        if name == "loop":
            kinds = params
        for body in bodies_of(instruction):
            self.walk_body(body, params, results, kinds)
        self.stack.put(results)

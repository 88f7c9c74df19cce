"""What instructions take from the stack and put on it."""

from wasmhost.check.scope import CodeFault
from wasmhost.instructions import ACCESS_BITS
from wasmhost.numbers import signature_of

PLAIN_EFFECTS = {
    "nop": ((), ()),
    "unreachable": ((), ()),
    "drop": ((None,), ()),
    "i32.const": ((), ("i32",)),
    "i64.const": ((), ("i64",)),
}

MEMORY_EFFECTS = {
    "memory.size": ((), ("i32",)),
    "memory.grow": (("i32",), ("i32",)),
    "memory.fill": (("i32", "i32", "i32"), ()),
    "memory.copy": (("i32", "i32", "i32"), ()),
}

MOST_EXPONENTS = {8: 0, 16: 1, 32: 2, 64: 3}


def local_get(scope, instruction):
    """The effect of local.get."""
    return (), (scope.slot(instruction[1]),)


def local_set(scope, instruction):
    """The effect of local.set."""
    return (scope.slot(instruction[1]),), ()


def local_tee(scope, instruction):
    """The effect of local.tee."""
    kinds = (scope.slot(instruction[1]),)
    return kinds, kinds


def global_get(scope, instruction):
    """The effect of global.get."""
    kind, _ = scope.variable(instruction[1])
    return (), (kind,)


def global_set(scope, instruction):
    """The effect of global.set."""
    kind, mutable = scope.variable(instruction[1])
    if not mutable:
        raise CodeFault("global is immutable")
    return (kind,), ()


def br(scope, instruction):
    """The effect of br."""
    return scope.label(instruction[1]), ()


def br_if(scope, instruction):
    """The effect of br_if."""
    kinds = scope.label(instruction[1])
    return kinds + ("i32",), kinds


def return_effect(scope, instruction):
    """The effect of return."""
    return scope.results, ()


def call(scope, instruction):
    """The effect of call."""
    return scope.function(instruction[1])


def call_indirect(scope, instruction):
    """The effect of call_indirect."""
    scope.need_table(instruction[2])
    params, results = scope.signature(instruction[1])
    return params + ("i32",), results


def throw(scope, instruction):
    """The effect of throw."""
    return scope.tag(instruction[1]), ()


RULES = {
    "local.get": local_get,
    "local.set": local_set,
    "local.tee": local_tee,
    "global.get": global_get,
    "global.set": global_set,
    "br": br,
    "br_if": br_if,
    "return": return_effect,
    "call": call,
    "call_indirect": call_indirect,
    "throw": throw,
}


def access_effect(scope, instruction):
    """The effect of a load or store."""
    name, exponent, _ = instruction
    scope.need_memory()
    if exponent > MOST_EXPONENTS[ACCESS_BITS[name]]:
        raise CodeFault("alignment too large")
    kind = name[:3]
    if name[4:].startswith("load"):
        return ("i32",), (kind,)
    return ("i32", kind), ()


def effect_of(scope, instruction):
    """Returns the kinds that an instruction takes and the kinds that it puts.

    Not for select, br_table and the instructions with code, whose effect no two lists of kinds tell.
    """
    name = instruction[0]
    if name in RULES:
        rule = RULES[name]
        return rule(scope, instruction)
    if name in ACCESS_BITS:
        return access_effect(scope, instruction)
    if name in MEMORY_EFFECTS:
        scope.need_memory()
        return MEMORY_EFFECTS[name]
    if name in PLAIN_EFFECTS:
        return PLAIN_EFFECTS[name]
    return signature_of(name)

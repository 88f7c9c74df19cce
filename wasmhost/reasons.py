"""The reasons of traps."""

UNREACHABLE = "unreachable"
OUT_OF_BOUNDS = "out of bounds memory access"
UNDEFINED_ELEMENT = "undefined element"
UNINITIALIZED_ELEMENT = "uninitialized element"
CALL_MISMATCH = "indirect call mismatch"
STACK_EXHAUSTED = "call stack exhausted"

# A save writes a reason as its place among these.
REASONS = (
    "unreachable",
    "integer divide by zero",
    "integer overflow",
    "out of bounds memory access",
    "undefined element",
    "uninitialized element",
    "indirect call mismatch",
    "call stack exhausted",
)

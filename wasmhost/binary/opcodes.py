"""The bytes with which instructions begin."""

from wasmhost.errors import UnknownInstruction

END = 11
ELSE = 5
PREFIX = 252

NAMES = {
    0: "unreachable", 1: "nop", 2: "block", 3: "loop", 4: "if",
    8: "throw",
    12: "br", 13: "br_if", 14: "br_table", 15: "return", 16: "call", 17: "call_indirect",
    26: "drop", 27: "select",
    31: "try_table", 32: "local.get", 33: "local.set", 34: "local.tee", 35: "global.get", 36: "global.set",
    40: "i32.load", 41: "i64.load",
    44: "i32.load8_s", 45: "i32.load8_u", 46: "i32.load16_s", 47: "i32.load16_u", 48: "i64.load8_s",
    49: "i64.load8_u", 50: "i64.load16_s", 51: "i64.load16_u", 52: "i64.load32_s", 53: "i64.load32_u",
    54: "i32.store", 55: "i64.store",
    58: "i32.store8", 59: "i32.store16", 60: "i64.store8", 61: "i64.store16", 62: "i64.store32",
    63: "memory.size", 64: "memory.grow", 65: "i32.const", 66: "i64.const",
    69: "i32.eqz", 70: "i32.eq", 71: "i32.ne", 72: "i32.lt_s", 73: "i32.lt_u", 74: "i32.gt_s",
    75: "i32.gt_u", 76: "i32.le_s", 77: "i32.le_u", 78: "i32.ge_s", 79: "i32.ge_u",
    80: "i64.eqz", 81: "i64.eq", 82: "i64.ne", 83: "i64.lt_s", 84: "i64.lt_u", 85: "i64.gt_s",
    86: "i64.gt_u", 87: "i64.le_s", 88: "i64.le_u", 89: "i64.ge_s", 90: "i64.ge_u",
    103: "i32.clz", 104: "i32.ctz", 105: "i32.popcnt", 106: "i32.add", 107: "i32.sub", 108: "i32.mul",
    109: "i32.div_s", 110: "i32.div_u", 111: "i32.rem_s", 112: "i32.rem_u", 113: "i32.and", 114: "i32.or",
    115: "i32.xor", 116: "i32.shl", 117: "i32.shr_s", 118: "i32.shr_u", 119: "i32.rotl", 120: "i32.rotr",
    121: "i64.clz", 122: "i64.ctz", 123: "i64.popcnt", 124: "i64.add", 125: "i64.sub", 126: "i64.mul",
    127: "i64.div_s", 128: "i64.div_u", 129: "i64.rem_s", 130: "i64.rem_u", 131: "i64.and", 132: "i64.or",
    133: "i64.xor", 134: "i64.shl", 135: "i64.shr_s", 136: "i64.shr_u", 137: "i64.rotl", 138: "i64.rotr",
    167: "i32.wrap_i64",
    172: "i64.extend_i32_s", 173: "i64.extend_i32_u",
    192: "i32.extend8_s", 193: "i32.extend16_s", 194: "i64.extend8_s", 195: "i64.extend16_s",
    196: "i64.extend32_s",
}

PREFIXED_NAMES = {10: "memory.copy", 11: "memory.fill"}

# The zero bytes that name the only memory, behind the opcode.
MEMORY_ZEROS = {"memory.size": 1, "memory.grow": 1, "memory.copy": 2, "memory.fill": 1}


def opcode(name):
    """Returns the list of the bytes with which the instruction of this name begins."""
    for code, known in NAMES.items():
        if known == name:
            return [code]
    for code, known in PREFIXED_NAMES.items():
        if known == name:
            return [PREFIX, code]
    raise UnknownInstruction(name)


def instruction_name(code):
    """Returns the name of the instruction with this one-byte opcode, or None."""
    return NAMES.get(code)


def prefixed_name(code):
    """Returns the name of the instruction with this byte behind the prefix, or None."""
    return PREFIXED_NAMES.get(code)

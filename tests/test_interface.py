"""The interface of the document: each name stands in its file, with its arguments."""
import importlib
import inspect
import unittest

from wasmhost import errors

FUNCTIONS = {
    "wasmhost.modules": ["equal(first, second)"],
    "wasmhost.words": ["width(kind)", "unsigned(kind, number)", "signed(kind, number)", "extend(number, bits)", "word_bytes(number, count)", "bytes_word(data)"],
    "wasmhost.numbers": ["signature_of(name)", "calculate(name, operands)"],
    "wasmhost.binary.numerals": ["write_unsigned(number)", "write_signed(number)", "read_unsigned(data, place, end, bits)", "read_signed(data, place, end, bits)"],
    "wasmhost.binary.opcodes": ["opcode(name)", "instruction_name(code)"],
    "wasmhost.binary.writer": ["write_code(body)", "write_name(name)"],
    "wasmhost.binary.reader": ["read_code(data, place, end)", "read_name(data, place, end)"],
    "wasmhost.binary.modules": ["encode(module)", "decode(data)"],
    "wasmhost.text.tokens": ["tokens_of(text)", "number_of(word)"],
    "wasmhost.text.modules": ["parse(text)"],
    "wasmhost.text.printer": ["print_module(module)", "print_string(data)"],
    "wasmhost.check.modules": ["check(module)"],
    "wasmhost.check.code": ["stacks(module, func)", "count_places(body)", "stack_at(module, func, place)"],
    "wasmhost.flat": ["flatten(module, func)"],
    "wasmhost.store": ["value_fits(kind, value)", "values_fit(kinds, values)"],
    "wasmhost.names": ["lookup(names, module, name)", "put_name(names, module, name, kind, index)", "publish_items(names, module, items)"],
    "wasmhost.link": ["add_host(store, params, results)", "item_fits(store, module, row, number)", "resolve(store, names, module)", "link(store, module, found)"],
    "wasmhost.access": ["read_memory(store, memory, at, count)", "write_memory(store, memory, at, data)", "read_variable(store, index)",
                        "write_variable(store, index, value)", "read_table(store, table)", "write_table(store, table, at, func)"],
    "wasmhost.machine.step": ["step(machine)", "run(machine, steps)"],
    "wasmhost.machine.outside": ["begin(machine, func, arguments)", "answer(machine, results)", "answer_throw(machine, tag, results)", "answer_trap(machine, reason)",
                                 "at_place(machine)"],
    "wasmhost.fast.lower": ["blocks(module, func)"],
    "wasmhost.fast.passes": ["fold(block)", "copies(block)", "prune(block, heights, slots)", "improve(block, heights, slots)"],
    "wasmhost.fast.run": ["heights_of(module, func)", "do_block(machine, block, heights)", "run_fast(machine, steps, fast, stops)", "fast_entry(module, func)"],
    "wasmhost.save.numerals": ["mix(data, modulus)", "pack(head, numbers)", "unpack(head, data)"],
    "wasmhost.records": ["write_record(start, rows)", "read_record(data)", "audit(data)", "part(first, second)"],
    "wasmhost.judge": ["claims(data, steps)", "narrow(first, second)", "judge(data, before, first, second)"],
}

CLASSES = {
    "wasmhost.store": {"Table": ["__init__(self, size, most)"], "Memory": ["__init__(self, pages, most)", "size(self)", "read(self, at, count)", "write(self, at, data)"],
                       "Global": ["__init__(self, kind, mutable, value)"],
                       "Instance": ["__init__(self, module, functions, tables, memories, variables, tags, codes)"], "Store": ["__init__(self)"]},
    "wasmhost.machine.state": {"Frame": ["__init__(self, func, instance, place, slots, stack)"], "Machine": ["__init__(self, store)"]},
    "wasmhost.engine": {"Engine": [
        "__init__(self)", "add_host(self, params, results)", "define(self, module, name, kind, index)", "publish(self, instance, module)", "names(self)",
        "instantiate(self, module)", "shown(self, instance, name)", "signature(self, func)", "read(self, memory, at, count)", "write(self, memory, at, data)",
        "variable(self, index)", "set_variable(self, index, value)", "table(self, table)", "set_table(self, table, at, func)", "pages(self, memory)",
        "call(self, func, arguments)", "start(self, instance)", "status(self)", "run(self, steps)", "over(self, steps)", "out(self, steps)", "into(self)",
        "answer(self, results)", "answer_throw(self, tag, results)", "answer_trap(self, reason)", "break_at(self, func, place)", "clear_break(self, func, place)",
        "breaks(self)", "frames(self)", "set_local(self, frame, local, value)", "make_fast(self, func)", "make_plain(self, func)", "fast_functions(self)",
        "block_at(self, func, place)", "improved_at(self, func, place)", "save(self)", "restore(self, data)", "digest(self)", "record(self)", "recorded(self)",
        "stop(self)", "replay(self, data)"]},
}

ERRORS = ("Trap(reason)", "DecodeError(reason, place)", "ParseError(reason, line, column)", "UnknownInstruction(name)", "InvalidModule()", "ImportMissing(index)",
          "ImportUnfit(index)", "NoSuchItem(kind, index)", "Busy()", "NotAsked()", "LimitReached(what)", "OutOfRange(what)", "BadValues()", "Immutable(index)",
          "DamagedSave(place)", "DamagedRecord(row)", "BadClaim()")


def written(function):
    return function.__name__ + str(inspect.signature(function))


class Interface(unittest.TestCase):
    def test_functions(self):
        for file, rows in FUNCTIONS.items():
            module = importlib.import_module(file)
            for row in rows:
                function = getattr(module, row.split("(")[0])
                self.assertEqual((written(function), function.__module__), (row, file))

    def test_classes(self):
        for file, classes in CLASSES.items():
            module = importlib.import_module(file)
            for name, rows in classes.items():
                found = getattr(module, name)
                self.assertEqual((found.__module__, found.__bases__), (file, (object,)))
                for row in rows:
                    # Each method is defined in the class itself.
                    self.assertEqual(written(vars(found)[row.split("(")[0]]), row)

    def test_errors(self):
        self.assertEqual(errors.HostError.__bases__, (ValueError,))
        for row in ERRORS:
            name, names = row[:-1].split("(")
            found = getattr(errors, name)
            self.assertEqual(found.__bases__, (errors.HostError,))
            values = {each: number for number, each in enumerate(names.split(", ")) if each}
            self.assertEqual(vars(found(*values.values())), values)

    def test_values(self):
        from wasmhost.machine.state import MOST_FRAMES
        from wasmhost.numbers import INSTRUCTIONS
        self.assertEqual((MOST_FRAMES, type(INSTRUCTIONS), len(INSTRUCTIONS)), (64, tuple, 66))


if __name__ == "__main__":
    unittest.main()

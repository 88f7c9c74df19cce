import inspect
import unittest

from wasmhost.modules import Module, equal

PARTS = {
    "signatures": ((("i32",), ("i64",)),),
    "imports": (("a", "b", "memory", (1, None)),),
    "functions": ((0, ("i32",), (("nop",),)),),
    "tables": ((1, 2),),
    "memories": ((0, None),),
    "tags": (0,),
    "variables": (("i32", True, ("i32.const", 4)),),
    "exports": (("e", "func", 0),),
    "start": 0,
    "table_segments": ((0, ("i32.const", 0), (1, 2)),),
    "memory_segments": ((0, ("i32.const", 0), (1, 255)),),
}

OTHER_PARTS = {
    "signatures": ((("i32",), ("i32",)),),
    "imports": (("a", "b", "memory", (1, 1)),),
    "functions": ((0, ("i32",), (("drop",),)),),
    "tables": ((1, 3),),
    "memories": ((0, 0),),
    "tags": (1,),
    "variables": (("i32", True, ("i32.const", 5)),),
    "exports": (("e", "func", 1),),
    "start": 1,
    "table_segments": ((0, ("i32.const", 0), (1, 3)),),
    "memory_segments": ((0, ("i32.const", 0), (1, 254)),),
}


class Modules(unittest.TestCase):
    def test_without_arguments(self):
        module = Module()
        for name in PARTS:
            with self.subTest(name):
                self.assertEqual(getattr(module, name), None if name == "start" else ())

    def test_each_argument_alone(self):
        for name, part in PARTS.items():
            module = Module(**{name: part})
            for other in PARTS:
                with self.subTest(name=name, other=other):
                    expected = part if other == name else (None if other == "start" else ())
                    self.assertEqual(getattr(module, other), expected)

    def test_all_arguments(self):
        module = Module(**PARTS)
        self.assertEqual(vars(module), PARTS)

    def test_arguments_are_passed_by_name(self):
        parameters = inspect.signature(Module).parameters
        self.assertEqual(list(parameters), list(PARTS))
        for parameter in parameters.values():
            self.assertEqual(parameter.kind, inspect.Parameter.KEYWORD_ONLY)

    def test_init_is_defined_in_the_class(self):
        self.assertIn("__init__", vars(Module))


class Equal(unittest.TestCase):
    def test_equal_modules(self):
        self.assertIs(equal(Module(), Module()), True)
        self.assertIs(equal(Module(**PARTS), Module(**PARTS)), True)
        module = Module(**PARTS)
        self.assertIs(equal(module, module), True)

    def test_one_part_differs(self):
        for name in PARTS:
            with self.subTest(name):
                changed = dict(PARTS)
                changed[name] = OTHER_PARTS[name]
                self.assertIs(equal(Module(**PARTS), Module(**changed)), False)
                self.assertIs(equal(Module(**changed), Module(**PARTS)), False)

    def test_one_part_is_missing(self):
        for name in PARTS:
            with self.subTest(name):
                changed = dict(PARTS)
                del changed[name]
                self.assertIs(equal(Module(**PARTS), Module(**changed)), False)

    def test_start_0_is_not_no_start(self):
        self.assertIs(equal(Module(start=0), Module()), False)

    def test_modules_stay_as_they_were(self):
        first, second = Module(**PARTS), Module(**OTHER_PARTS)
        equal(first, second)
        self.assertEqual((vars(first), vars(second)), (PARTS, OTHER_PARTS))


if __name__ == "__main__":
    unittest.main()

import unittest

from wasmhost import errors

ATTRIBUTES = {
    "Trap": ("reason",),
    "DecodeError": ("reason", "place"),
    "ParseError": ("reason", "line", "column"),
    "UnknownInstruction": ("name",),
    "InvalidModule": (),
    "ImportMissing": ("index",),
    "ImportUnfit": ("index",),
    "NoSuchItem": ("kind", "index"),
    "Busy": (),
    "NotAsked": (),
    "LimitReached": ("what",),
    "OutOfRange": ("what",),
    "BadValues": (),
    "Immutable": ("index",),
    "DamagedSave": ("place",),
    "DamagedRecord": ("row",),
    "BadClaim": (),
}


class Errors(unittest.TestCase):
    def test_base_class(self):
        self.assertEqual(errors.HostError.__bases__, (ValueError,))

    def test_each_class_derives_directly(self):
        for name in ATTRIBUTES:
            with self.subTest(name):
                self.assertEqual(getattr(errors, name).__bases__, (errors.HostError,))

    def test_each_class_is_defined_in_the_file(self):
        for name in list(ATTRIBUTES) + ["HostError"]:
            self.assertEqual(getattr(errors, name).__module__, "wasmhost.errors")

    def test_attributes(self):
        for name, attributes in ATTRIBUTES.items():
            values = ["value %d" % at for at in range(len(attributes))]
            error = getattr(errors, name)(*values)
            with self.subTest(name):
                self.assertEqual([getattr(error, attribute) for attribute in attributes], values)
                self.assertEqual(sorted(vars(error)), sorted(attributes))

    def test_attributes_by_name(self):
        for name, attributes in ATTRIBUTES.items():
            error = getattr(errors, name)(**{attribute: attribute + "!" for attribute in attributes})
            with self.subTest(name):
                for attribute in attributes:
                    self.assertEqual(getattr(error, attribute), attribute + "!")

    def test_none_as_an_attribute(self):
        self.assertIsNone(errors.DamagedRecord(None).row)

    def test_wrong_number_of_arguments(self):
        for name, attributes in ATTRIBUTES.items():
            if attributes:
                with self.subTest(name), self.assertRaises(TypeError):
                    getattr(errors, name)()

    def test_caught_as_a_value_error(self):
        for name, attributes in ATTRIBUTES.items():
            with self.subTest(name), self.assertRaises(ValueError):
                raise getattr(errors, name)(*attributes)


if __name__ == "__main__":
    unittest.main()

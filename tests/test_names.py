import unittest

from wasmhost.errors import LimitReached
from wasmhost.names import lookup, publish_items, put_name


def many(count):
    return [("m", "n" + str(at), "func", at) for at in range(count)]


class Names(unittest.TestCase):
    def full(self, names, action, *arguments):
        """The call reaches the limit and leaves the list as it was."""
        before = list(names)
        with self.assertRaises(LimitReached) as caught:
            action(names, *arguments)
        self.assertEqual((caught.exception.what, names), ("names", before))


class Lookup(unittest.TestCase):
    NAMES = [("a", "x", "func", 0), ("a", "y", "table", 1), ("b", "x", "memory", 2), ("", "", "tag", 3), ("x", "a", "global", 4)]

    def test_each_pair(self):
        for module, name, kind, index in self.NAMES:
            self.assertEqual(lookup(self.NAMES, module, name), (kind, index))

    def test_pairs_that_are_not_there(self):
        for module, name in (("b", "y"), ("a", "z"), ("", "x"), ("a", ""), ("ax", ""), ("A", "x"), ("y", "a"), ("func", "x")):
            self.assertIsNone(lookup(self.NAMES, module, name))
        self.assertIsNone(lookup([], "a", "x"))

    def test_the_list_stays(self):
        names = list(self.NAMES)
        lookup(names, "a", "x")
        lookup(names, "a", "z")
        self.assertEqual(names, self.NAMES)


class Put(Names):
    def test_new_pairs(self):
        names = []
        self.assertIsNone(put_name(names, "a", "x", "func", 5))
        put_name(names, "a", "y", "tag", 0)
        put_name(names, "b", "x", "func", 5)
        self.assertEqual(names, [("a", "x", "func", 5), ("a", "y", "tag", 0), ("b", "x", "func", 5)])

    def test_a_pair_that_is_there_moves_to_the_end(self):
        names = many(4)
        put_name(names, "m", "n1", "global", 9)
        self.assertEqual(names, [many(4)[0]] + many(4)[2:] + [("m", "n1", "global", 9)])
        put_name(names, "m", "n1", "global", 9)
        self.assertEqual(names[-1], ("m", "n1", "global", 9))
        self.assertEqual(len(names), 4)
        put_name(names, "m", "n0", "func", 0)
        self.assertEqual(names, many(4)[2:] + [("m", "n1", "global", 9), ("m", "n0", "func", 0)])

    def test_the_same_list(self):
        names = many(1)
        same = names
        put_name(names, "a", "b", "func", 0)
        self.assertEqual(len(same), 2)

    def test_sixty_names(self):
        names = many(59)
        put_name(names, "a", "b", "func", 1)
        self.assertEqual(len(names), 60)
        self.full(names, put_name, "a", "c", "func", 1)
        put_name(names, "a", "b", "tag", 2)
        self.assertEqual(names, many(59) + [("a", "b", "tag", 2)])
        put_name(names, "m", "n0", "tag", 3)
        self.assertEqual(names, many(59)[1:] + [("a", "b", "tag", 2), ("m", "n0", "tag", 3)])


class Publish(Names):
    def test_no_item(self):
        for count in (0, 3, 60):
            names = many(count)
            self.assertIsNone(publish_items(names, "m", []))
            self.assertEqual(names, many(count))

    def test_in_order(self):
        names = many(2)
        publish_items(names, "a", [("x", "func", 1), ("", "tag", 0), ("y", "memory", 2)])
        self.assertEqual(names, many(2) + [("a", "x", "func", 1), ("a", "", "tag", 0), ("a", "y", "memory", 2)])

    def test_items_with_equal_names(self):
        names = []
        publish_items(names, "a", [("x", "func", 1), ("y", "func", 2), ("x", "tag", 3), ("z", "func", 4)])
        self.assertEqual(names, [("a", "y", "func", 2), ("a", "x", "tag", 3), ("a", "z", "func", 4)])

    def test_pairs_that_are_there(self):
        names = many(3)
        publish_items(names, "m", [("n1", "tag", 7), ("new", "tag", 8), ("n0", "func", 0)])
        self.assertEqual(names, [("m", "n2", "func", 2), ("m", "n1", "tag", 7), ("m", "new", "tag", 8), ("m", "n0", "func", 0)])
        publish_items(names, "k", [("n1", "tag", 7)])
        self.assertEqual(names[-2:], [("m", "n0", "func", 0), ("k", "n1", "tag", 7)])

    def test_up_to_sixty_names(self):
        items = [("i" + str(at), "func", at) for at in range(60)]
        names = []
        publish_items(names, "a", items)
        self.assertEqual(names, [("a",) + item for item in items])
        for count in (1, 30, 59, 60):
            names = many(count)
            self.full(names, publish_items, "a", items[:61 - count])
            publish_items(names, "a", items[:60 - count])
            self.assertEqual(len(names), 60)
        self.full([], publish_items, "a", items + [("more", "func", 0)])

    def test_only_the_number_at_the_end_counts(self):
        # With names that are there already, and with equal names among the items.
        names = many(60)
        publish_items(names, "m", [row[1:] for row in many(60)])
        self.assertEqual(names, many(60))
        names = many(59)
        publish_items(names, "a", [("x", "func", at) for at in range(50)])
        self.assertEqual(names, many(59) + [("a", "x", "func", 49)])
        self.full(names, publish_items, "m", [("n0", "tag", 1), ("n1", "tag", 2), ("new", "tag", 3)])

    def test_the_items_stay(self):
        items = [("x", "func", 1), ("x", "func", 2)]
        publish_items([], "a", items)
        self.assertEqual(items, [("x", "func", 1), ("x", "func", 2)])


if __name__ == "__main__":
    unittest.main()

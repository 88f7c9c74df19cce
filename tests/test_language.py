"""Those rules of the language that can be checked by looking at the code."""
import ast
import builtins
import pathlib
import re
import unittest

FOLDER = pathlib.Path(__file__).resolve().parent.parent / "wasmhost"

FILES = sorted(FOLDER.rglob("*.py"))

BUILTINS = set("""len range enumerate zip min max sum abs sorted reversed int str bool list tuple dict isinstance ord repr
any all divmod pow Exception ValueError TypeError KeyError IndexError LookupError""".split())

METHODS = set("""append clear copy count endswith extend find get index insert isalnum isalpha isdigit islower isspace
isupper items join keys ljust lower lstrip partition pop remove replace reverse rfind rjust rpartition rsplit rstrip
setdefault split splitlines startswith strip update upper values zfill bit_length""".split())

BARRED = set("""register mro elements open input law version_info with_traceback add_note attrgetter breakpoint builtins
compile copyright credits delattr dir eval exec exit gc getattr globals hasattr help id importlib license locals
methodcaller os quit setattr super type vars sys typing typing_extensions enum Enum IntEnum StrEnum Flag IntFlag Generic
Protocol ABC ABCMeta namedtuple NamedTuple TypedDict TYPE_CHECKING abstractmethod""".split())

NODES = (ast.AsyncFunctionDef, ast.Global, ast.Nonlocal, ast.Set, ast.SetComp, ast.GeneratorExp, ast.Yield,
         ast.YieldFrom, ast.Await, ast.Div, ast.With, ast.Match, ast.NamedExpr, ast.AnnAssign, ast.MatMult)


def module_name(path):
    parts = list(path.relative_to(FOLDER.parent).with_suffix("").parts)
    return ".".join(parts[:-1] if parts[-1] == "__init__" else parts)


def trees():
    return [(path, ast.parse(path.read_text("ascii"))) for path in FILES]


def bound_at_top(tree):
    """The names that a file defines itself, in order."""
    names = []
    for row in tree.body:
        if isinstance(row, (ast.FunctionDef, ast.ClassDef)):
            names.append(row.name)
        if isinstance(row, ast.Assign):
            names += [target.id for target in row.targets]
    return names


def imported(tree):
    return [alias.name for row in tree.body if isinstance(row, ast.ImportFrom) for alias in row.names]


def functions(tree):
    return [node for node in ast.walk(tree) if isinstance(node, ast.FunctionDef)]


def local_names(tree):
    found = {node.id for node in ast.walk(tree) if isinstance(node, ast.Name) and not isinstance(node.ctx, ast.Load)}
    found |= {node.name for node in ast.walk(tree) if isinstance(node, ast.ExceptHandler) and node.name}
    return found | {node.arg for node in ast.walk(tree) if isinstance(node, ast.arg)}


class Files(unittest.TestCase):
    def test_only_python_files(self):
        for path in FOLDER.rglob("*"):
            if "__pycache__" not in path.parts:
                self.assertTrue(path.is_dir() or re.fullmatch("[a-z0-9_]+[.]py", path.name), path)
                self.assertTrue(path.is_file() or (path / "__init__.py").exists(), path)
        self.assertLessEqual(len(FILES), 100)

    def test_no_file_beside_a_folder_of_its_name(self):
        for path in FILES:
            self.assertFalse(path.with_suffix("").is_dir(), path)

    def test_sizes_and_characters(self):
        for path in FILES:
            text = path.read_text("ascii")
            lines = text.split("\n")
            self.assertTrue(all(character == "\n" or " " <= character <= "~" for character in text), path)
            self.assertLessEqual(len(lines), 400, path)
            self.assertLessEqual(max(len(line) for line in lines), 120, path)
        for path, tree in trees():
            for function in functions(tree):
                self.assertLessEqual(function.end_lineno - function.lineno + 1, 40, (path, function.name))


class Structure(unittest.TestCase):
    def test_imports(self):
        tops = {module_name(path): bound_at_top(tree) for path, tree in trees()}
        for path, tree in trees():
            self.assertEqual([node for node in ast.walk(tree) if isinstance(node, ast.Import)], [], path)
            for node in ast.walk(tree):
                if isinstance(node, ast.ImportFrom):
                    self.assertIn(node, tree.body)
                    self.assertEqual(node.level, 0)
                    for alias in node.names:
                        self.assertIsNone(alias.asname)
                        self.assertIn(alias.name, tops[node.module], path)

    def test_no_circle_of_imports(self):
        left = {module_name(path): {row.module for row in tree.body if isinstance(row, ast.ImportFrom)}
                for path, tree in trees()}
        while left:
            free = [name for name, needs in left.items() if not needs & set(left)]
            self.assertTrue(free, left)
            for name in free:
                del left[name]

    def test_every_import_is_used(self):
        for path, tree in trees():
            used = {node.id for node in ast.walk(tree) if isinstance(node, ast.Name)}
            self.assertEqual(set(imported(tree)) - used, set(), path)

    def test_module_level(self):
        for path, tree in trees():
            self.assertIsNotNone(ast.get_docstring(tree), path)
            for row in tree.body[1:]:
                self.assertIsInstance(row, (ast.ImportFrom, ast.FunctionDef, ast.ClassDef, ast.Assign), path)
                if isinstance(row, ast.Assign):
                    self.assertEqual(len(row.targets), 1)
                    self.assertIsInstance(row.targets[0], ast.Name)
                    for node in ast.walk(row.value):
                        self.assertNotIsInstance(node, (ast.Call, ast.ListComp, ast.DictComp, ast.Lambda), path)
            names = bound_at_top(tree) + imported(tree)
            self.assertEqual(len(names), len(set(names)), path)

    def test_module_level_tables_hold_no_lists(self):
        for path, tree in trees():
            for row in tree.body:
                if isinstance(row, ast.Assign):
                    inner = [node for node in ast.walk(row.value) if node is not row.value]
                    self.assertFalse([node for node in inner if isinstance(node, (ast.List, ast.Dict))], path)

    def test_functions_and_classes(self):
        for path, tree in trees():
            for node in ast.walk(tree):
                if isinstance(node, (ast.FunctionDef, ast.ClassDef)):
                    self.assertEqual(node.decorator_list, [], path)
                    self.assertIsNotNone(ast.get_docstring(node) or node.name == "__init__", (path, node.name))
                if isinstance(node, ast.ClassDef):
                    for row in node.body[1:]:
                        self.assertIsInstance(row, ast.FunctionDef)
                if isinstance(node, ast.FunctionDef) and node.name.startswith("__"):
                    self.assertEqual(node.name, "__init__")

    def test_each_function_is_used_or_listed(self):
        text = "\n".join(path.read_text("ascii") for path in FILES)
        document = """equal width unsigned signed extend word_bytes bytes_word signature_of calculate write_unsigned
        write_signed read_unsigned read_signed opcode instruction_name write_code write_name read_code read_name encode
        decode stacks count_places stack_at check tokens_of number_of parse print_module print_string mix pack unpack
        flatten size read write value_fits values_fit lookup put_name publish_items __init__ add_host resolve link
        read_memory write_memory read_variable write_variable read_table write_table step run begin answer answer_throw
        answer_trap at_place blocks fold copies prune improve heights_of do_block run_fast fast_entry
        write_record read_record audit part claims narrow judge define publish names instantiate shown signature variable
        set_variable table set_table pages call start status over out into break_at clear_break breaks frames set_local
        make_fast make_plain fast_functions block_at improved_at save restore digest record recorded stop
        replay""".split()
        for path, tree in trees():
            for function in functions(tree):
                uses = len(re.findall(r"\b%s\b" % function.name, text))
                self.assertTrue(uses > 1 or function.name in document, (path, function.name))


class Rows(unittest.TestCase):
    def test_statements_and_expressions(self):
        for path, tree in trees():
            for node in ast.walk(tree):
                self.assertNotIsInstance(node, NODES, path)
                if isinstance(node, ast.Constant):
                    self.assertNotIsInstance(node.value, (float, complex, bytes), path)
                    if isinstance(node.value, str):
                        self.assertNotIn("%", node.value, path)
                if isinstance(node, ast.Pow):
                    self.fail("an exponent")

    def test_names(self):
        known = {name for _, tree in trees() for name in bound_at_top(tree)}
        for path, tree in trees():
            locals_of_file = local_names(tree)
            self.assertFalse(locals_of_file & (set(dir(builtins)) | BARRED), path)
            classes = {node.name for node in tree.body if isinstance(node, ast.ClassDef)}
            self.assertFalse((locals_of_file - set(bound_at_top(tree))) & (classes | set(imported(tree))), path)
            for node in ast.walk(tree):
                if isinstance(node, ast.Name) and isinstance(node.ctx, ast.Load) and node.id in dir(builtins):
                    self.assertIn(node.id, BUILTINS, path)
                if isinstance(node, ast.Name):
                    self.assertIn(node.id, known | locals_of_file | BUILTINS, path)
                if isinstance(node, (ast.FunctionDef, ast.ClassDef)):
                    self.assertNotIn(node.name, set(dir(builtins)) | BARRED, path)
                if isinstance(node, ast.Attribute):
                    self.assertNotIn(node.attr, BARRED)

    def test_methods(self):
        own = {function.name for _, tree in trees() for node in ast.walk(tree) if isinstance(node, ast.ClassDef)
               for function in functions(node)}
        self.assertFalse(own & METHODS)
        for path, tree in trees():
            for node in ast.walk(tree):
                if isinstance(node, ast.Call) and isinstance(node.func, ast.Attribute):
                    self.assertIn(node.func.attr, own | METHODS, path)

    def test_attributes_are_no_methods(self):
        for path, tree in trees():
            for node in ast.walk(tree):
                if isinstance(node, ast.ClassDef):
                    stored = {inner.attr for inner in ast.walk(node)
                              if isinstance(inner, ast.Attribute) and isinstance(inner.ctx, ast.Store)}
                    self.assertFalse(stored & {function.name for function in functions(node)}, path)

    def test_what_is_iterated_at_once(self):
        """zip, enumerate, reversed and the views stand behind `in` or as the first argument of a few builtins."""
        for path, tree in trees():
            allowed = set()
            for node in ast.walk(tree):
                if isinstance(node, (ast.For, ast.comprehension)):
                    allowed.add(node.iter)
                if isinstance(node, ast.Call) and isinstance(node.func, ast.Name) and node.args:
                    if node.func.id in ("list", "tuple", "dict", "sorted", "sum", "any", "all", "enumerate", "zip"):
                        allowed.add(node.args[0])
            for node in ast.walk(tree):
                if isinstance(node, ast.Call):
                    name = getattr(node.func, "id", getattr(node.func, "attr", ""))
                    if name in ("zip", "enumerate", "reversed", "range", "items", "keys", "values"):
                        self.assertIn(node, allowed, (path, node.lineno))

    def test_words(self):
        for path in FILES:
            text = re.sub(r'"""(.|\n)*?"""|#.*', "", path.read_text("ascii"))
            words = set(re.findall(r"\w+", text))
            self.assertFalse(words & BARRED - {"locals", "type"}, path)
            for word in ("dataclass", "overload", "contextmanager", "_wall", "_WallAttr"):
                self.assertNotIn(word, path.read_text("ascii"))


if __name__ == "__main__":
    unittest.main()

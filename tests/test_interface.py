"""Tests of the opening of the document's interface: names, arguments, and the file that defines each of them."""

import ast
import importlib
import inspect
import pathlib
import unittest

import orderflow
from orderflow.book import Book
from orderflow.matching import matched
from orderflow.notes import played, read, shown

PACKAGE = pathlib.Path(orderflow.__file__).parent

# For each file of the interface: its functions with their arguments, and its classes.
FUNCTIONS = {
    "errors": {},
    "lines": {"worth": ["pieces", "cents", "pack"]},
    "matching": {"matched": ["changes"]},
    "book": {},
    "notes": {"shown": ["deed"], "read": ["text"], "played": ["texts"]},
}
CLASSES = {
    "errors": ["FlowError", "NoDeed", "NoLines", "NoItem", "NoNumber", "FullBook", "NoOrder", "SameOrder", "NoLine",
               "TooMuch", "NothingDone"],
    "lines": [],
    "matching": [],
    "book": ["Book"],
    "notes": [],
}
# The methods of Book with their arguments.
METHODS = {"do": ["deed"], "undo": [], "orders": [], "told": ["order"], "paid": ["order"], "owed": ["order"],
           "rows": ["order"], "settled": ["order"], "net": []}


def defined(name, kind):
    """The names that a file defines itself, at its outermost level."""
    tree = ast.parse((PACKAGE / (name + ".py")).read_text(encoding="utf-8"))
    return [node.name for node in tree.body if isinstance(node, kind)]


class TheInterface(unittest.TestCase):
    def test_each_function_is_defined_in_its_file(self):
        for name, functions in FUNCTIONS.items():
            for function in functions:
                with self.subTest(file=name, function=function):
                    self.assertIn(function, defined(name, ast.FunctionDef))

    def test_each_class_is_defined_in_its_file(self):
        for name, classes in CLASSES.items():
            for kind in classes:
                with self.subTest(file=name, kind=kind):
                    self.assertIn(kind, defined(name, ast.ClassDef))

    def test_each_function_has_its_arguments(self):
        for name, functions in FUNCTIONS.items():
            module = importlib.import_module("orderflow." + name)
            for function, arguments in functions.items():
                with self.subTest(file=name, function=function):
                    told = inspect.signature(getattr(module, function)).parameters
                    self.assertEqual(list(told), arguments)

    def test_book_is_made_without_arguments(self):
        self.assertEqual(list(inspect.signature(Book).parameters), [])

    def test_each_method_is_defined_in_book_itself_with_its_arguments(self):
        for method, arguments in METHODS.items():
            with self.subTest(method=method):
                self.assertIn(method, vars(Book))
                self.assertEqual(list(inspect.signature(getattr(Book(), method)).parameters), arguments)

    def test_arguments_by_their_names(self):
        book = Book()
        self.assertEqual(book.do(deed=read(text="order pen 5 120 1")), [])
        self.assertEqual([book.told(order=0), book.paid(order=0), book.owed(order=0), book.rows(order=0),
                          book.settled(order=0)], [[("pen", 5, 0, 0, 0, 0)], 0, 0, [], []])
        self.assertEqual(matched(changes=[1, -1]), [(0, 1, 1)])
        self.assertEqual(shown(deed=("pay", 0, 1)), "pay 0 1")
        self.assertEqual(played(texts=["pay 0 1"]), ([None], []))

    def test_the_package_is_one_folder_of_python_files(self):
        self.assertEqual(PACKAGE.name, "orderflow")
        self.assertTrue((PACKAGE / "__init__.py").is_file())
        others = [path.name for path in PACKAGE.iterdir() if path.suffix != ".py" and path.name != "__pycache__"]
        self.assertEqual(others, [])


if __name__ == "__main__":
    unittest.main()

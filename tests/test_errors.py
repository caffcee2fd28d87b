"""Tests of orderflow.errors: the names of the refusals (points 8 and 10 of the document)."""

import unittest

from orderflow import errors
from orderflow.errors import FlowError

NAMES = ("NoDeed", "NoLines", "NoItem", "NoNumber", "FullBook", "NoOrder", "SameOrder", "NoLine", "TooMuch",
         "NothingDone")


def classes():
    return [getattr(errors, name) for name in NAMES]


class TheFamily(unittest.TestCase):
    def test_there_are_ten_classes_and_the_one_above_them(self):
        found = [name for name, thing in vars(errors).items() if isinstance(thing, type)]
        self.assertEqual(sorted(found), sorted(NAMES + ("FlowError",)))
        self.assertEqual(len(set(classes())), 10)

    def test_each_class_bears_its_name(self):
        for name, kind in zip(NAMES, classes()):
            self.assertEqual(kind.__name__, name)
        self.assertEqual(FlowError.__name__, "FlowError")

    def test_flow_error_is_under_value_error(self):
        self.assertEqual(FlowError.__bases__, (ValueError,))

    def test_each_is_under_flow_error(self):
        for kind in classes():
            with self.subTest(kind=kind.__name__):
                self.assertTrue(issubclass(kind, FlowError))
                self.assertIsNot(kind, FlowError)

    def test_none_is_under_another(self):
        for kind in classes():
            for other in classes():
                if kind is not other:
                    with self.subTest(kind=kind.__name__, other=other.__name__):
                        self.assertFalse(issubclass(kind, other))


class RaisedAndCaught(unittest.TestCase):
    def test_each_is_caught_as_itself_as_flow_error_and_as_value_error(self):
        for kind in classes():
            for caught in (kind, FlowError, ValueError):
                with self.subTest(kind=kind.__name__, caught=caught.__name__):
                    with self.assertRaises(caught) as held:
                        raise kind("what is wrong")
                    self.assertIs(type(held.exception), kind)
                    self.assertEqual(str(held.exception), "what is wrong")

    def test_none_is_caught_as_another(self):
        for kind in classes():
            others = tuple(other for other in classes() if other is not kind)
            with self.subTest(kind=kind.__name__):
                try:
                    raise kind("what is wrong")
                except others:
                    self.fail("caught as another class")
                except FlowError:
                    pass

    def test_flow_error_is_caught_as_value_error_and_as_none_of_the_ten(self):
        try:
            raise FlowError("what is wrong")
        except tuple(classes()):
            self.fail("caught as one of the ten")
        except ValueError as error:
            self.assertEqual(str(error), "what is wrong")

    def test_a_plain_value_error_is_no_refusal(self):
        self.assertNotIsInstance(ValueError("what is wrong"), FlowError)

    def test_each_can_be_raised_without_a_message(self):
        for kind in [FlowError] + classes():
            with self.subTest(kind=kind.__name__), self.assertRaises(kind):
                raise kind()


if __name__ == "__main__":
    unittest.main()

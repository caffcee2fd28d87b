"""Tests of orderflow.book: the rows of an order, and how they are settled (points 11 and 12 of the document)."""

import unittest

from orderflow.book import Book
from orderflow.errors import FlowError
from orderflow.matching import matched

PEN = ("pen", 5, 120, 1)
CUP = ("cup", 24, 900, 12)


def book_of(*deeds):
    book = Book()
    for deed in deeds:
        book.do(deed)
    return book


def all_words():
    """A book in which each word is done, of two orders side by side."""
    return book_of(("order", [PEN, CUP]), ("order", [PEN]), ("deliver", 0, 0, 5), ("deliver", 1, 0, 1),
                   ("credit", 0, 0, 500), ("pay", 0, 400), ("back", 0, 0, 2), ("deliver", 0, 1, 5),
                   ("swap", 0, 1, 2), ("refund", 0, 100), ("move", 0, 1, 10))


class Rows(unittest.TestCase):
    def test_a_new_order_has_none(self):
        book = book_of(("order", [PEN]))
        self.assertEqual(book.rows(0), [])
        self.assertIs(type(book.rows(0)), list)

    def test_each_word_with_its_change_in_turn(self):
        self.assertEqual(all_words().rows(0), [
            ("deliver", 600), ("credit", -500), ("pay", -400), ("back", -100), ("deliver", 375), ("swap", -150),
            ("refund", 100), ("move", 10)])

    def test_those_of_another_order_are_its_own(self):
        self.assertEqual(all_words().rows(1), [("deliver", 120), ("move", -10)])

    def test_a_move_is_in_the_rows_of_both(self):
        book = book_of(("order", [PEN]), ("order", [PEN]), ("pay", 1, 30), ("move", 1, 0, 20))
        self.assertEqual(book.rows(1), [("pay", -30), ("move", 20)])
        self.assertEqual(book.rows(0), [("move", -20)])

    def test_changes_of_nought_too(self):
        book = book_of(("order", [("gift", 3, 0, 1), ("nail", 5, 1, 4)]), ("deliver", 0, 0, 3), ("deliver", 0, 1, 3),
                       ("back", 0, 0, 1), ("swap", 0, 0, 1), ("deliver", 0, 1, 1), ("back", 0, 1, 1))
        self.assertEqual(book.rows(0), [("deliver", 0), ("deliver", 0), ("back", 0), ("swap", 0), ("deliver", 1),
                                        ("back", -1)])

    def test_pieces_back_of_which_the_whole_price_was_credited(self):
        for word in ("back", "swap"):
            book = book_of(("order", [PEN]), ("deliver", 0, 0, 1), ("credit", 0, 0, 120), (word, 0, 0, 1))
            self.assertEqual(book.rows(0), [("deliver", 120), ("credit", -120), (word, 0)])

    def test_what_was_refused_is_none_of_them(self):
        book = book_of(("order", [PEN]), ("deliver", 0, 0, 1))
        for deed in (("deliver", 0, 0, 5), ("pay", 0, 0), ("refund", 0, 1), ("move", 0, 0, 1), ("back", 0, 1, 1)):
            with self.assertRaises(FlowError):
                book.do(deed)
        self.assertEqual(book.rows(0), [("deliver", 120)])

    def test_what_was_taken_back_is_none_of_them(self):
        book = all_words()
        book.undo()
        self.assertEqual(book.rows(0)[-1], ("refund", 100))
        self.assertEqual(book.rows(1), [("deliver", 120)])
        book.undo()
        self.assertEqual(book.rows(0)[-1], ("swap", -150))
        book.do(("pay", 0, 3))
        self.assertEqual(book.rows(0)[-2:], [("swap", -150), ("pay", -3)])

    def test_they_add_up_to_what_is_owed(self):
        book = all_words()
        for order in (0, 1):
            self.assertEqual(sum(cents for _, cents in book.rows(order)), book.owed(order))
        self.assertEqual([book.owed(0), book.owed(1)], [-65, 110])

    def test_pairs_are_tuples(self):
        for row in all_words().rows(0):
            self.assertIs(type(row), tuple)
            self.assertEqual([type(part) for part in row], [str, int])

    def test_equal_deeds_are_as_many_rows(self):
        book = book_of(("order", [PEN]), ("pay", 0, 5), ("pay", 0, 5), ("pay", 0, 5))
        self.assertEqual(book.rows(0), [("pay", -5)] * 3)


class Settled(unittest.TestCase):
    def test_a_new_order_has_nothing_to_settle(self):
        book = book_of(("order", [PEN]))
        self.assertEqual(book.settled(0), [])
        self.assertIs(type(book.settled(0)), list)

    def test_deliveries_and_payments(self):
        book = book_of(("order", [PEN]), ("deliver", 0, 0, 2), ("deliver", 0, 0, 1), ("pay", 0, 100), ("pay", 0, 300))
        self.assertEqual(book.settled(0), [(0, 2, 100), (0, 3, 140), (1, 3, 120)])

    def test_places_count_the_rows_of_nought(self):
        book = book_of(("order", [("gift", 3, 0, 1), PEN]), ("deliver", 0, 0, 1), ("deliver", 0, 1, 1),
                       ("deliver", 0, 0, 1), ("pay", 0, 50))
        self.assertEqual(book.settled(0), [(1, 3, 50)])

    def test_paid_ahead(self):
        book = book_of(("order", [PEN]), ("pay", 0, 500), ("deliver", 0, 0, 1), ("deliver", 0, 0, 2))
        self.assertEqual(book.settled(0), [(1, 0, 120), (2, 0, 240)])

    def test_refunds_and_moves_are_debts_and_what_comes_back_a_cover(self):
        self.assertEqual(all_words().settled(0), [(0, 1, 500), (0, 2, 100), (4, 2, 300), (4, 3, 75), (6, 3, 25),
                                                  (6, 5, 75), (7, 5, 10)])
        self.assertEqual(all_words().settled(1), [(0, 1, 10)])

    def test_they_are_the_cents_of_the_rows_matched(self):
        book = all_words()
        for order in (0, 1):
            self.assertEqual(book.settled(order), matched([cents for _, cents in book.rows(order)]))

    def test_what_was_taken_back_is_not_settled(self):
        book = book_of(("order", [PEN]), ("deliver", 0, 0, 2), ("pay", 0, 100), ("pay", 0, 40))
        book.undo()
        self.assertEqual(book.settled(0), [(0, 1, 100)])

    def test_triples_are_tuples(self):
        for triple in all_words().settled(0):
            self.assertIs(type(triple), tuple)


if __name__ == "__main__":
    unittest.main()

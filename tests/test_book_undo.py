"""Tests of orderflow.book: the last deed that stands is taken back (point 10 of the document)."""

import unittest

from orderflow.book import Book
from orderflow.errors import FlowError, NoOrder, NothingDone

PEN = ("pen", 5, 120, 1)
CUP = ("cup", 24, 900, 12)

# Each of the eight words, each deed possible behind the ones ahead of it; credited falls at the back and the swap.
DEEDS = [
    ("order", [PEN, CUP]),
    ("order", [CUP]),
    ("deliver", 0, 0, 5),
    ("deliver", 0, 1, 17),
    ("credit", 0, 0, 500),
    ("pay", 0, 1200),
    ("back", 0, 0, 2),
    ("swap", 0, 1, 8),
    ("credit", 0, 1, 600),
    ("swap", 0, 1, 3),
    ("deliver", 0, 1, 18),
    ("order", [PEN] * 20),
    ("pay", 1, 300),
    ("move", 1, 2, 120),
    ("refund", 1, 180),
    ("move", 2, 0, 1),
    ("deliver", 2, 19, 1),
    ("back", 0, 1, 24),
]


def state(book):
    """All that a book tells."""
    return [(book.told(order), book.paid(order), book.owed(order), book.rows(order), book.settled(order))
            for order in range(book.orders())]


def book_of(*deeds):
    book = Book()
    for deed in deeds:
        book.do(deed)
    return book


class OneDeed(unittest.TestCase):
    def taken_back(self, deed, *ahead):
        """Behind the deeds ahead this deed is done and taken back, twice; all is as it was."""
        book = book_of(*ahead)
        as_it_was = state(book)
        for _ in range(2):
            changes = book.do(deed)
            self.assertNotEqual(state(book), as_it_was)
            self.assertEqual(book.undo(), deed)
            self.assertEqual(state(book), as_it_was)
        self.assertEqual(book.do(deed), changes)

    def test_an_order(self):
        self.taken_back(("order", [PEN, CUP]))
        self.taken_back(("order", [PEN]), ("order", [CUP]), ("pay", 0, 7))

    def test_a_delivery(self):
        self.taken_back(("deliver", 0, 1, 7), ("order", [PEN, CUP]), ("deliver", 0, 0, 2), ("deliver", 0, 1, 1))
        self.taken_back(("deliver", 0, 0, 4), ("order", [PEN]), ("deliver", 0, 0, 5), ("swap", 0, 0, 4))

    def test_pieces_back_for_good(self):
        self.taken_back(("back", 0, 0, 2), ("order", [PEN]), ("deliver", 0, 0, 5), ("back", 0, 0, 1))

    def test_pieces_back_to_be_delivered_anew(self):
        self.taken_back(("swap", 0, 0, 2), ("order", [PEN]), ("deliver", 0, 0, 5), ("swap", 0, 0, 1))

    def test_a_credit(self):
        self.taken_back(("credit", 0, 0, 9), ("order", [PEN]), ("deliver", 0, 0, 5), ("credit", 0, 0, 4))

    def test_a_payment(self):
        self.taken_back(("pay", 0, 700), ("order", [PEN]), ("deliver", 0, 0, 5), ("pay", 0, 30))

    def test_a_refund(self):
        self.taken_back(("refund", 0, 20), ("order", [PEN]), ("pay", 0, 30))

    def test_a_move(self):
        self.taken_back(("move", 1, 0, 20), ("order", [PEN]), ("order", [PEN]), ("pay", 1, 30), ("pay", 0, 4))

    def test_a_deed_that_lowered_credited(self):
        for word in ("back", "swap"):
            for pieces in (1, 4, 5):
                self.taken_back((word, 0, 0, pieces), ("order", [PEN]), ("deliver", 0, 0, 5), ("credit", 0, 0, 500))

    def test_a_deed_that_changed_nothing_owed(self):
        gift = ("gift", 5, 0, 1)
        self.taken_back(("deliver", 0, 0, 2), ("order", [gift]), ("deliver", 0, 0, 3))
        self.taken_back(("back", 0, 0, 2), ("order", [gift]), ("deliver", 0, 0, 3))
        self.taken_back(("swap", 0, 0, 2), ("order", [gift]), ("deliver", 0, 0, 3))

    def test_numbers_of_thousands_of_figures(self):
        book = book_of(("order", [PEN]))
        book.do(("pay", 0, 10 ** 5000))
        self.assertTrue(book.undo() == ("pay", 0, 10 ** 5000))
        self.assertEqual(book.paid(0), 0)


class ManyDeeds(unittest.TestCase):
    def test_deed_by_deed_down_to_none(self):
        book = Book()
        states = []
        for deed in DEEDS:
            states.append(state(book))
            book.do(deed)
        for deed, ahead in zip(reversed(DEEDS), reversed(states)):
            self.assertEqual(book.undo(), deed)
            self.assertEqual(state(book), ahead)
        self.assertEqual(book.orders(), 0)
        with self.assertRaises(NothingDone):
            book.undo()

    def test_done_anew_from_each_place_all_comes_to_the_same(self):
        wanted = state(book_of(*DEEDS))
        for many in range(len(DEEDS) + 1):
            book = book_of(*DEEDS)
            for _ in range(many):
                book.undo()
            for deed in DEEDS[len(DEEDS) - many:]:
                book.do(deed)
            self.assertEqual(state(book), wanted)

    def test_the_deed_that_is_given_back_can_be_done_again(self):
        book = book_of(*DEEDS)
        wanted = state(book)
        undone = [book.undo() for _ in DEEDS]
        for deed in reversed(undone):
            book.do(deed)
        self.assertEqual(state(book), wanted)

    def test_other_deeds_behind_what_was_taken_back(self):
        book = book_of(("order", [PEN]), ("deliver", 0, 0, 1), ("pay", 0, 50))
        book.undo()
        book.do(("pay", 0, 70))
        self.assertEqual(book.undo(), ("pay", 0, 70))
        self.assertEqual(book.undo(), ("deliver", 0, 0, 1))
        self.assertEqual(book.undo(), ("order", [PEN]))

    def test_deeds_of_many_orders_are_taken_back_in_their_turn(self):
        book = book_of(("order", [PEN]), ("order", [PEN]), ("pay", 0, 1), ("pay", 1, 2), ("pay", 0, 3))
        self.assertEqual([book.undo() for _ in range(3)], [("pay", 0, 3), ("pay", 1, 2), ("pay", 0, 1)])

    def test_very_many_deeds(self):
        book = book_of(("order", [PEN]))
        for cents in range(1, 3001):
            book.do(("pay", 0, cents))
        for cents in range(3000, 0, -1):
            self.assertEqual(book.undo(), ("pay", 0, cents))
        self.assertEqual((book.paid(0), book.rows(0), book.orders()), (0, [], 1))


class AnOrderTakenBack(unittest.TestCase):
    def test_there_is_no_such_order(self):
        book = book_of(("order", [PEN]), ("order", [CUP]))
        book.undo()
        self.assertEqual(book.orders(), 1)
        for ask in (book.told, book.paid, book.owed, book.rows, book.settled):
            with self.assertRaises(NoOrder):
                ask(1)
        with self.assertRaises(NoOrder):
            book.do(("pay", 1, 1))

    def test_its_number_is_free_for_the_next_one(self):
        book = book_of(("order", [PEN]), ("order", [CUP]), ("deliver", 1, 0, 12), ("pay", 1, 5))
        for _ in range(3):
            book.undo()
        book.do(("order", [("nut", 7, 10, 3)]))
        self.assertEqual(book.orders(), 2)
        self.assertEqual(state(book)[1], ([("nut", 7, 0, 0, 0, 0)], 0, 0, [], []))
        self.assertEqual(book.told(0), [("pen", 5, 0, 0, 0, 0)])
        self.assertEqual(book.do(("deliver", 1, 0, 2)), [(1, 6)])

    def test_the_deed_is_a_tuple_with_a_list_of_tuples(self):
        deed = book_of(("order", [PEN, CUP])).undo()
        self.assertEqual(deed, ("order", [PEN, CUP]))
        self.assertEqual((type(deed), type(deed[1])), (tuple, list))
        self.assertEqual([type(line) for line in deed[1]], [tuple, tuple])


class NothingToTakeBack(unittest.TestCase):
    def refused(self, book):
        with self.assertRaises(FlowError) as held:
            book.undo()
        self.assertIs(type(held.exception), NothingDone)

    def test_in_a_new_book(self):
        self.refused(Book())

    def test_again_and_again(self):
        book = Book()
        self.refused(book)
        self.refused(book)
        self.assertEqual(book.do(("order", [PEN])), [])
        self.assertEqual(book.undo(), ("order", [PEN]))
        self.refused(book)
        self.assertEqual(book.orders(), 0)

    def test_where_deeds_were_refused_alone(self):
        book = Book()
        for deed in ((), ("order", []), ("pay", 0, 1)):
            with self.assertRaises(FlowError):
                book.do(deed)
        self.refused(book)

    def test_where_there_was_nothing_to_net(self):
        book = Book()
        book.net()
        self.refused(book)


if __name__ == "__main__":
    unittest.main()

"""Tests of orderflow.book: deeds that can't be done are refused, and the book is as it was (points 2, 5 and 8)."""

import unittest

from orderflow.book import Book
from orderflow.errors import (FlowError, FullBook, NoDeed, NoItem, NoLine, NoLines, NoNumber, NoOrder, SameOrder,
                              TooMuch)

PEN = ("pen", 5, 120, 1)
CUP = ("cup", 24, 900, 12)
GREAT = 10 ** 30


def state(book):
    """All that a book tells."""
    return [(book.told(order), book.paid(order), book.owed(order), book.rows(order), book.settled(order))
            for order in range(book.orders())]


def book_of(*deeds):
    book = Book()
    for deed in deeds:
        book.do(deed)
    return book


def full_book():
    return book_of(*[("order", [PEN])] * 40)


def some_book():
    """Order 0: charges of 600 less 30 and of 450, overpaid by 80; order 1: nothing delivered; order 2 owes 240."""
    return book_of(("order", [PEN, CUP]), ("order", [PEN]), ("order", [PEN]),
                   ("deliver", 0, 0, 5), ("credit", 0, 0, 30), ("deliver", 0, 1, 12), ("swap", 0, 1, 6),
                   ("pay", 0, 1100), ("deliver", 2, 0, 2))


class Refusals(unittest.TestCase):
    def refused(self, kind, deed, book=None):
        """The deed is refused with just this class, and the book is as it was, the last deed that stands too."""
        if book is None:
            book = some_book()
        ahead = state(book)
        with self.assertRaises(FlowError) as held:
            book.do(deed)
        self.assertIs(type(held.exception), kind)
        self.assertEqual(state(book), ahead)

    def done(self, deed, book=None):
        """The deed is done."""
        if book is None:
            book = some_book()
        book.do(deed)


class NoDeeds(Refusals):
    def test_the_empty_tuple(self):
        self.refused(NoDeed, ())
        self.refused(NoDeed, (), Book())

    def test_other_words(self):
        for word in ("", "send", "Order", "ORDER", "orders", "deliverer", "delive", " pay", "pay ", "Pay", "net",
                     "undo", "order pay"):
            for parts in ((), (0,), (0, 1), (0, 0, 1), ([PEN],)):
                self.refused(NoDeed, (word,) + parts)

    def test_another_number_of_parts(self):
        for word in ("deliver", "back", "swap", "credit", "move"):
            for parts in ((), (0,), (0, 1), (0, 1, 1, 1)):
                self.refused(NoDeed, (word,) + parts)
        for word in ("pay", "refund"):
            for parts in ((), (0,), (0, 0, 1), (0, 1, 1, 1)):
                self.refused(NoDeed, (word,) + parts)

    def test_another_number_of_parts_of_an_order_whatever_its_lines(self):
        for lines in ([PEN], [], [PEN] * 21, [("Pen", 5, 120, 1)], [("pen", 0, 120, 1)]):
            self.refused(NoDeed, ("order", lines, 1))
            self.refused(NoDeed, ("order", lines, lines))
            self.refused(NoDeed, ("order", lines, 1), full_book())
        self.refused(NoDeed, ("order",))
        self.refused(NoDeed, ("order",), full_book())

    def test_it_is_told_ahead_of_all_others(self):
        self.refused(NoDeed, ("pay", 9))
        self.refused(NoDeed, ("pay", 9, 9, -9))
        self.refused(NoDeed, ("move", 9, 9))
        self.refused(NoDeed, ("move", 0, 0))
        self.refused(NoDeed, ("deliver", 0, 9))
        self.refused(NoDeed, ("deliver", -1, -1, -1, -1))
        self.refused(NoDeed, ("send", 9, 9, 0))


class OrdersRefused(Refusals):
    def test_no_line(self):
        self.refused(NoLines, ("order", []))
        self.refused(NoLines, ("order", []), Book())

    def test_more_than_twenty_lines(self):
        self.done(("order", [PEN] * 20))
        for many in (21, 22, 100):
            self.refused(NoLines, ("order", [PEN] * many))

    def test_items_that_are_none(self):
        for item in ("", "abcdefghijklm", "a" * 13, "z" * 100, "Pen", "peN", "PEN", "pen1", "1", "a b", " pen",
                     "pen ", "pen-cup", "`", "{", "pe`", "pe{", "pen,", "a\n", "_", "@", "[", "-"):
            self.refused(NoItem, ("order", [(item, 5, 120, 1)]))

    def test_numbers_out_of_their_bounds(self):
        for pieces in (0, -1, 1000001, GREAT, -GREAT):
            self.refused(NoNumber, ("order", [("pen", pieces, 120, 1)]))
        for cents in (-1, 1000000001, GREAT, -GREAT):
            self.refused(NoNumber, ("order", [("pen", 5, cents, 1)]))
        for pack in (0, -1, 1001, GREAT, -GREAT):
            self.refused(NoNumber, ("order", [("pen", 5, 120, pack)]))

    def test_numbers_at_their_bounds(self):
        for pieces in (1, 1000000):
            for cents in (0, 1000000000):
                for pack in (1, 1000):
                    self.done(("order", [("pen", pieces, cents, pack)]))

    def test_a_bad_line_behind_good_ones(self):
        self.refused(NoItem, ("order", [PEN, CUP, ("", 5, 120, 1)]))
        self.refused(NoItem, ("order", [PEN] * 19 + [("pen!", 5, 120, 1)]))
        self.refused(NoNumber, ("order", [PEN, CUP, ("pen", 0, 120, 1)]))
        self.refused(NoNumber, ("order", [PEN] * 19 + [("pen", 5, 120, 1001)]))

    def test_the_forty_first_order(self):
        book = full_book()
        self.refused(FullBook, ("order", [PEN]), book)
        self.assertEqual(book.orders(), 40)
        self.done(("pay", 39, 1), book)

    def test_the_fortieth_order(self):
        book = book_of(*[("order", [PEN])] * 39)
        self.assertEqual(book.do(("order", [PEN])), [])
        self.assertEqual(book.orders(), 40)

    def test_how_many_lines_is_told_ahead_of_their_items_and_numbers(self):
        self.refused(NoLines, ("order", [("Pen", 5, 120, 1)] * 21))
        self.refused(NoLines, ("order", [("pen", 0, 120, 1)] * 21))

    def test_the_item_is_told_ahead_of_the_numbers_of_its_line(self):
        self.refused(NoItem, ("order", [("Pen", 0, -1, 0)]))
        self.refused(NoItem, ("order", [PEN, ("", 5, -1, 1)]))

    def test_line_by_line(self):
        self.refused(NoNumber, ("order", [("pen", 0, 120, 1), ("Pen", 5, 120, 1)]))
        self.refused(NoNumber, ("order", [("pen", 5, -1, 1), ("Pen", 5, 120, 1)]))
        self.refused(NoNumber, ("order", [("pen", 5, 120, 1001), ("Pen", 5, 120, 1)]))
        self.refused(NoItem, ("order", [("Pen", 5, 120, 1), ("pen", 0, 120, 1)]))

    def test_a_full_book_is_told_at_last(self):
        self.refused(NoLines, ("order", []), full_book())
        self.refused(NoLines, ("order", [PEN] * 21), full_book())
        self.refused(NoItem, ("order", [PEN, ("Pen", 5, 120, 1)]), full_book())
        self.refused(NoNumber, ("order", [PEN, ("pen", 5, 120, 0)]), full_book())


class NoSuchOrder(Refusals):
    def test_of_each_word(self):
        for order in (3, 4, 39, 40, GREAT, -1, -3, -GREAT):
            for word in ("deliver", "back", "swap", "credit"):
                self.refused(NoOrder, (word, order, 0, 1))
            for word in ("pay", "refund"):
                self.refused(NoOrder, (word, order, 1))
            self.refused(NoOrder, ("move", order, 1, 1))
            self.refused(NoOrder, ("move", 0, order, 1))

    def test_in_a_book_without_orders(self):
        for deed in (("deliver", 0, 0, 1), ("back", 0, 0, 1), ("swap", 0, 0, 1), ("credit", 0, 0, 1), ("pay", 0, 1),
                     ("refund", 0, 1), ("move", 0, 1, 1), ("pay", -1, 1)):
            self.refused(NoOrder, deed, Book())

    def test_numbers_of_thousands_of_figures(self):
        for order in (10 ** 5000, -10 ** 5000):
            self.refused(NoOrder, ("pay", order, 1))
            self.refused(NoOrder, ("move", 0, order, 1))

    def test_it_is_told_ahead_of_what_comes_behind_it(self):
        for order in (3, -1):
            self.refused(NoOrder, ("deliver", order, 9, 0))
            self.refused(NoOrder, ("credit", order, -1, GREAT))
            self.refused(NoOrder, ("pay", order, 0))
            self.refused(NoOrder, ("refund", order, GREAT))
            self.refused(NoOrder, ("move", order, order, 0))
            self.refused(NoOrder, ("move", order, order, 1))
            self.refused(NoOrder, ("move", 0, order, 0))
            self.refused(NoOrder, ("move", 0, order, GREAT))
            self.refused(NoOrder, ("move", order, 0, GREAT))

    def test_of_what_is_asked(self):
        book = some_book()
        for order in (3, 40, GREAT, 10 ** 5000, -1, -2, -3, -GREAT):
            for ask in (book.told, book.paid, book.owed, book.rows, book.settled):
                with self.assertRaises(FlowError) as held:
                    ask(order)
                self.assertIs(type(held.exception), NoOrder)

    def test_of_what_is_asked_of_a_book_without_orders(self):
        book = Book()
        for order in (0, -1):
            for ask in (book.told, book.paid, book.owed, book.rows, book.settled):
                with self.assertRaises(NoOrder):
                    ask(order)


class TheSameOrder(Refusals):
    def test_a_move_from_an_order_to_itself(self):
        for order in range(3):
            self.refused(SameOrder, ("move", order, order, 1))

    def test_it_is_told_ahead_of_what_comes_behind_it(self):
        for cents in (0, -1, GREAT, 81):
            self.refused(SameOrder, ("move", 0, 0, cents))


class NoSuchLine(Refusals):
    def test_of_each_word(self):
        for word in ("deliver", "back", "swap", "credit"):
            for line in (2, 3, 20, GREAT, 10 ** 5000, -1, -2, -GREAT):
                self.refused(NoLine, (word, 0, line, 1))
            for line in (1, -1):
                self.refused(NoLine, (word, 1, line, 1))

    def test_it_is_told_ahead_of_what_comes_behind_it(self):
        for word in ("deliver", "back", "swap", "credit"):
            for amount in (0, -1, GREAT):
                self.refused(NoLine, (word, 0, 2, amount))
                self.refused(NoLine, (word, 0, -1, amount))


class NoSuchNumber(Refusals):
    def test_pieces_and_cents_below_one(self):
        for amount in (0, -1, -5, -GREAT, -10 ** 5000):
            for word in ("deliver", "back", "swap", "credit"):
                self.refused(NoNumber, (word, 0, 0, amount))
                self.refused(NoNumber, (word, 1, 0, amount))
            for word in ("pay", "refund"):
                self.refused(NoNumber, (word, 0, amount))
                self.refused(NoNumber, (word, 1, amount))
            self.refused(NoNumber, ("move", 0, 1, amount))
            self.refused(NoNumber, ("move", 1, 0, amount))

    def test_it_is_told_where_nothing_goes(self):
        self.refused(NoNumber, ("back", 1, 0, 0))
        self.refused(NoNumber, ("refund", 2, 0))
        self.refused(NoNumber, ("move", 2, 0, 0))


class TooMuchAtOnce(Refusals):
    def at_most(self, most, deed, book=some_book):
        """The deed may be done for so many pieces or cents, and no more."""
        for more in (most + 1, most + 2, most + GREAT):
            self.refused(TooMuch, deed + (more,), book())
        if most > 0:
            self.done(deed + (most,), book())
            self.done(deed + (1,), book())

    def test_deliveries(self):
        self.at_most(5, ("deliver", 1, 0))
        self.at_most(3, ("deliver", 2, 0))
        self.at_most(0, ("deliver", 0, 0))

    def test_deliveries_after_a_swap(self):
        self.at_most(18, ("deliver", 0, 1))
        self.at_most(6, ("deliver", 0, 1), lambda: book_of(("order", [PEN, CUP]), ("deliver", 0, 1, 24),
                                                           ("swap", 0, 1, 6), ("back", 0, 1, 2)))
        self.at_most(2, ("deliver", 0, 0), lambda: book_of(("order", [PEN]), ("deliver", 0, 0, 5), ("swap", 0, 0, 4),
                                                           ("deliver", 0, 0, 4), ("back", 0, 0, 1), ("swap", 0, 0, 2)))

    def test_deliveries_after_pieces_came_back_for_good(self):
        self.at_most(0, ("deliver", 0, 0), lambda: book_of(("order", [PEN]), ("deliver", 0, 0, 5), ("back", 0, 0, 5)))
        self.at_most(2, ("deliver", 0, 0), lambda: book_of(("order", [PEN]), ("deliver", 0, 0, 3), ("back", 0, 0, 3)))

    def test_pieces_that_come_back(self):
        for word in ("back", "swap"):
            self.at_most(5, (word, 0, 0))
            self.at_most(6, (word, 0, 1))
            self.at_most(0, (word, 1, 0))
            self.at_most(2, (word, 2, 0))

    def test_pieces_that_come_back_after_others_came_back(self):
        for word in ("back", "swap"):
            self.at_most(1, (word, 0, 0), lambda: book_of(("order", [PEN]), ("deliver", 0, 0, 4), ("back", 0, 0, 1),
                                                          ("swap", 0, 0, 2)))
            self.at_most(5, (word, 0, 0), lambda: book_of(("order", [PEN]), ("deliver", 0, 0, 5), ("swap", 0, 0, 5),
                                                          ("deliver", 0, 0, 5)))

    def test_credits(self):
        self.at_most(570, ("credit", 0, 0))
        self.at_most(450, ("credit", 0, 1))
        self.at_most(0, ("credit", 1, 0))
        self.at_most(240, ("credit", 2, 0))

    def test_a_credit_is_bounded_by_the_line_and_not_by_what_the_order_owes(self):
        self.at_most(240, ("credit", 0, 0), lambda: book_of(("order", [PEN, CUP]), ("deliver", 0, 0, 2),
                                                            ("deliver", 0, 1, 24), ("pay", 0, 2000)))
        self.at_most(240, ("credit", 0, 0), lambda: book_of(("order", [PEN, CUP]), ("deliver", 0, 0, 2),
                                                            ("deliver", 0, 1, 24)))

    def test_a_credit_after_credited_fell(self):
        self.at_most(120, ("credit", 0, 0), lambda: book_of(("order", [PEN]), ("deliver", 0, 0, 2),
                                                            ("credit", 0, 0, 200), ("swap", 0, 0, 2),
                                                            ("deliver", 0, 0, 1)))

    def test_payments_have_no_bound(self):
        for cents in (1, 1000000000, 1000000001, GREAT):
            self.done(("pay", 0, cents))
            self.done(("pay", 1, cents))

    def test_refunds(self):
        self.at_most(80, ("refund", 0))
        self.at_most(0, ("refund", 1))
        self.at_most(0, ("refund", 2))

    def test_moves(self):
        self.at_most(80, ("move", 0, 1))
        self.at_most(80, ("move", 0, 2))
        self.at_most(0, ("move", 1, 0))
        self.at_most(0, ("move", 2, 1))
        self.at_most(0, ("move", 2, 0))

    def test_an_order_that_is_just_paid_is_not_overpaid(self):
        for deed in (("refund", 0), ("move", 0, 1)):
            self.at_most(0, deed, lambda: book_of(("order", [PEN]), ("order", [PEN]), ("deliver", 0, 0, 2),
                                                  ("pay", 0, 240)))
            self.at_most(1, deed, lambda: book_of(("order", [PEN]), ("order", [PEN]), ("deliver", 0, 0, 2),
                                                  ("pay", 0, 241)))

    def test_another_order_that_is_overpaid_does_not_help(self):
        for deed in (("refund", 0), ("move", 0, 1), ("move", 0, 2)):
            self.at_most(5, deed, lambda: book_of(("order", [PEN]), ("order", [PEN]), ("order", [PEN]), ("pay", 0, 5),
                                                  ("pay", 1, 999), ("pay", 2, 999)))


class BehindARefusal(Refusals):
    def test_the_book_goes_on(self):
        book = some_book()
        for deed in ((), ("pay", 9, 1), ("move", 0, 0, 1), ("deliver", 0, 9, 1), ("pay", 0, 0), ("refund", 0, 81),
                     ("order", []), ("order", [("Pen", 1, 1, 1)]), ("order", [("pen", 0, 1, 1)])):
            with self.assertRaises(FlowError):
                book.do(deed)
        self.assertEqual(book.do(("refund", 0, 80)), [(0, 80)])
        self.assertEqual(book.do(("order", [PEN])), [])
        self.assertEqual(book.orders(), 4)

    def test_what_was_refused_is_not_taken_back(self):
        for deed in ((), ("pay", 9, 1), ("move", 0, 0, 1), ("deliver", 0, 9, 1), ("pay", 0, 0), ("refund", 0, 81),
                     ("order", []), ("order", [("Pen", 1, 1, 1)]), ("order", [("pen", 0, 1, 1)])):
            book = some_book()
            ahead = state(book)
            book.do(("pay", 1, 7))
            with self.assertRaises(FlowError):
                book.do(deed)
            self.assertEqual(book.undo(), ("pay", 1, 7))
            self.assertEqual(state(book), ahead)

    def test_a_full_book_takes_its_last_order_back(self):
        book = full_book()
        with self.assertRaises(FullBook):
            book.do(("order", [CUP]))
        self.assertEqual(book.undo(), ("order", [PEN]))
        self.assertEqual(book.orders(), 39)
        self.assertEqual(book.do(("order", [CUP])), [])


if __name__ == "__main__":
    unittest.main()

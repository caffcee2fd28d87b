"""Tests of orderflow.book: what orders are overpaid is moved to those that owe (point 13 of the document)."""

import itertools
import unittest

from orderflow.book import Book

PENNY = ("penny", 1000000, 1, 1)


def book_that_owes(*cents):
    """A book whose orders owe so many cents, or are overpaid where they are below nought."""
    book = Book()
    for order, owed in enumerate(cents):
        book.do(("order", [PENNY]))
        if owed > 0:
            book.do(("deliver", order, 0, owed))
        if owed < 0:
            book.do(("pay", order, -owed))
    return book


def owed(book):
    return [book.owed(order) for order in range(book.orders())]


def state(book):
    return [(book.told(order), book.paid(order), book.owed(order), book.rows(order), book.settled(order))
            for order in range(book.orders())]


class TheMoves(unittest.TestCase):
    def test_a_book_without_orders(self):
        self.assertEqual(Book().net(), [])

    def test_no_order_owes_or_none_is_overpaid(self):
        for cents in ((0,), (0, 0), (5, 7), (-5, -7), (5, 0), (0, -5)):
            book = book_that_owes(*cents)
            self.assertEqual(book.net(), [])
            self.assertEqual(owed(book), list(cents))

    def test_from_the_one_that_is_overpaid_to_the_one_that_owes(self):
        self.assertEqual(book_that_owes(5, -5).net(), [("move", 1, 0, 5)])
        self.assertEqual(book_that_owes(-5, 5).net(), [("move", 0, 1, 5)])

    def test_as_much_as_goes(self):
        self.assertEqual(book_that_owes(5, -3).net(), [("move", 1, 0, 3)])
        self.assertEqual(book_that_owes(3, -5).net(), [("move", 1, 0, 3)])

    def test_the_turn_of_the_example(self):
        book = book_that_owes(5, -3, 0, -4, 1)
        self.assertEqual(book.net(), [("move", 1, 0, 3), ("move", 3, 0, 2), ("move", 3, 4, 1)])
        self.assertEqual(owed(book), [0, 0, 0, -1, 0])

    def test_one_over_many(self):
        self.assertEqual(book_that_owes(-9, 2, 3, 9).net(), [("move", 0, 1, 2), ("move", 0, 2, 3), ("move", 0, 3, 4)])
        self.assertEqual(book_that_owes(9, -2, -3).net(), [("move", 1, 0, 2), ("move", 2, 0, 3)])

    def test_forty_orders(self):
        book = book_that_owes(*[3, -3] * 20)
        self.assertEqual(book.net(), [("move", place + 1, place, 3) for place in range(0, 40, 2)])
        self.assertEqual(owed(book), [0] * 40)

    def test_it_is_a_list_of_deeds(self):
        moves = book_that_owes(5, -3, 0, -4, 1).net()
        self.assertIs(type(moves), list)
        for move in moves:
            self.assertIs(type(move), tuple)
            self.assertEqual([type(part) for part in move], [str, int, int, int])


class BehindTheMoves(unittest.TestCase):
    def test_no_order_is_overpaid_while_another_owes_and_all_owe_what_they_did(self):
        for length in range(1, 5):
            for cents in itertools.product((-4, -1, 0, 2, 3), repeat=length):
                book = book_that_owes(*cents)
                book.net()
                behind = owed(book)
                self.assertEqual(sum(behind), sum(cents))
                self.assertFalse(min(behind) < 0 < max(behind), cents)

    def test_they_are_done(self):
        book = book_that_owes(5, -3, 0, -4, 1)
        book.net()
        self.assertEqual([book.paid(order) for order in range(5)], [5, 0, 0, 1, 1])
        self.assertEqual([book.rows(order) for order in range(5)], [
            [("deliver", 5), ("move", -3), ("move", -2)], [("pay", -3), ("move", 3)], [],
            [("pay", -4), ("move", 2), ("move", 1)], [("deliver", 1), ("move", -1)]])
        self.assertEqual(book.settled(0), [(0, 1, 3), (0, 2, 2)])
        self.assertEqual([line[1:] for line in book.told(0)], [(1000000, 5, 0, 0, 0)])

    def test_they_are_the_moves_done_one_by_one(self):
        netted, moved = book_that_owes(7, -3, 2, -8, -1, 1), book_that_owes(7, -3, 2, -8, -1, 1)
        for move in netted.net():
            moved.do(move)
        self.assertEqual(state(netted), state(moved))

    def test_netted_again_there_is_none(self):
        for cents in ((5, -3, 0, -4, 1), (5, -3), (3, -5), (-9, 2, 3, 9)):
            book = book_that_owes(*cents)
            book.net()
            ahead = state(book)
            self.assertEqual(book.net(), [])
            self.assertEqual(state(book), ahead)

    def test_netted_again_behind_further_deeds(self):
        book = book_that_owes(5, -3)
        book.net()
        book.do(("pay", 1, 4))
        self.assertEqual(book.net(), [("move", 1, 0, 2)])
        self.assertEqual(owed(book), [0, -2])

    def test_each_move_is_taken_back_by_itself(self):
        book = book_that_owes(5, -3, 0, -4, 1)
        stepwise = book_that_owes(5, -3, 0, -4, 1)
        ahead = state(book)
        states = [ahead]
        moves = book.net()
        for move in moves:
            stepwise.do(move)
            states.append(state(stepwise))
        for place in (2, 1, 0):
            self.assertEqual(state(book), states[place + 1])
            self.assertEqual(book.undo(), moves[place])
            self.assertEqual(state(book), states[place])
        self.assertEqual(book.undo(), ("deliver", 4, 0, 1))

    def test_some_moves_taken_back_and_netted_anew(self):
        book = book_that_owes(5, -3, 0, -4, 1)
        book.net()
        netted = state(book)
        book.undo()
        book.undo()
        self.assertEqual(book.net(), [("move", 3, 0, 2), ("move", 3, 4, 1)])
        self.assertEqual(state(book), netted)

    def test_great_numbers(self):
        great = 10 ** 40
        book = book_that_owes(1000000, -great, 7)
        self.assertEqual(book.net(), [("move", 1, 0, 1000000), ("move", 1, 2, 7)])
        self.assertEqual(owed(book), [0, 1000007 - great, 0])


if __name__ == "__main__":
    unittest.main()

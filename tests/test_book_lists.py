"""Tests of orderflow.book: lists that are handed in or given back, and two books side by side (point 1)."""

import unittest

from orderflow.book import Book
from orderflow.errors import FlowError

PEN = ("pen", 5, 120, 1)
CUP = ("cup", 24, 900, 12)


def state(book):
    """All that a book tells."""
    return [(book.told(order), book.paid(order), book.owed(order), book.rows(order), book.settled(order))
            for order in range(book.orders())]


def some_book():
    """Order 0 is overpaid by 130, order 1 owes 450."""
    book = Book()
    for deed in (("order", [PEN, CUP]), ("order", [CUP]), ("deliver", 0, 0, 3), ("credit", 0, 0, 90),
                 ("pay", 0, 400), ("deliver", 1, 0, 6)):
        book.do(deed)
    return book


def spoil(given):
    """What an owner may do with a list."""
    if given:
        given[0] = ("spoilt", 9)
    given.append(("more", 7))
    given.reverse()
    given.append(3)


class ListsHandedIn(unittest.TestCase):
    def test_an_order_leaves_its_lines_as_they_are(self):
        lines = [PEN, CUP]
        book = Book()
        book.do(("order", lines))
        book.do(("deliver", 0, 0, 1))
        self.assertEqual(lines, [PEN, CUP])

    def test_lines_changed_by_their_owner_afterwards(self):
        lines = [PEN, CUP]
        book = Book()
        book.do(("order", lines))
        told = state(book)
        lines[0] = ("nut", 1, 1, 1)
        lines.pop()
        self.assertEqual(state(book), told)
        self.assertEqual(book.do(("deliver", 0, 1, 12)), [(0, 900)])
        lines.clear()
        book.undo()
        self.assertEqual(book.undo(), ("order", [PEN, CUP]))

    def test_the_same_list_for_many_orders(self):
        lines = [PEN]
        book = Book()
        book.do(("order", lines))
        lines.append(CUP)
        book.do(("order", lines))
        lines[:] = [CUP]
        book.do(("order", lines))
        book.do(("deliver", 1, 0, 2))
        self.assertEqual([[line[0] for line in book.told(order)] for order in range(3)],
                         [["pen"], ["pen", "cup"], ["cup"]])
        self.assertEqual([book.told(order)[0][2] for order in range(3)], [0, 2, 0])
        book.undo()
        self.assertEqual([book.undo() for _ in range(3)], [("order", [CUP]), ("order", [PEN, CUP]), ("order", [PEN])])

    def test_a_refused_order_leaves_its_lines_as_they_are(self):
        for lines in ([], [PEN, ("Pen", 5, 120, 1)], [("pen", 0, 120, 1), PEN], [PEN] * 21):
            as_it_was = list(lines)
            with self.assertRaises(FlowError):
                Book().do(("order", lines))
            self.assertEqual(lines, as_it_was)


class ListsGivenBack(unittest.TestCase):
    def spoilt(self, ask):
        """What is given back is spoilt; the book is as it was, and asked again it tells a new list as before."""
        book = some_book()
        ahead = state(book)
        given = ask(book)
        told = list(given)
        spoil(given)
        self.assertEqual(state(book), ahead)
        self.assertEqual(ask(book), told)
        self.assertIsNot(ask(book), ask(book))

    def test_what_is_told(self):
        self.spoilt(lambda book: book.told(0))

    def test_rows(self):
        self.spoilt(lambda book: book.rows(0))

    def test_settled(self):
        self.spoilt(lambda book: book.settled(0))

    def test_those_of_an_order_that_nothing_changed(self):
        book = Book()
        book.do(("order", [PEN]))
        for ask in (book.rows, book.settled):
            spoil(ask(0))
            self.assertEqual(ask(0), [])
        book.do(("deliver", 0, 0, 1))
        self.assertEqual(book.rows(0), [("deliver", 120)])

    def test_what_a_deed_changed(self):
        for deed in (("order", [PEN]), ("deliver", 0, 0, 1), ("back", 0, 0, 3), ("swap", 0, 0, 1),
                     ("credit", 0, 0, 5), ("pay", 1, 9), ("refund", 0, 30), ("move", 0, 1, 30)):
            book, other = some_book(), some_book()
            spoil(book.do(deed))
            other.do(deed)
            self.assertEqual(state(book), state(other))
            self.assertEqual(book.undo(), deed)
            self.assertEqual(state(book), state(some_book()))

    def test_what_one_deed_changed_and_the_next_one(self):
        book = some_book()
        spoil(book.do(("order", [PEN])))
        self.assertEqual(book.do(("order", [PEN])), [])
        spoil(book.do(("pay", 0, 1)))
        self.assertEqual(book.do(("pay", 0, 1)), [(0, -1)])

    def test_the_list_of_net(self):
        book, other = some_book(), some_book()
        spoil(book.net())
        moves = other.net()
        self.assertEqual(moves, [("move", 0, 1, 130)])
        self.assertEqual(state(book), state(other))
        self.assertEqual(book.undo(), ("move", 0, 1, 130))
        self.assertEqual(state(book), state(some_book()))
        self.assertEqual(book.undo(), ("deliver", 1, 0, 6))

    def test_the_list_of_net_where_there_is_nothing_to_net(self):
        book = Book()
        spoil(book.net())
        self.assertEqual(book.net(), [])

    def test_the_lines_of_a_deed_that_was_taken_back(self):
        book = Book()
        lines = [PEN, CUP]
        book.do(("order", lines))
        deed = book.undo()
        self.assertIsNot(deed[1], lines)
        book.do(deed)
        spoil(deed[1])
        self.assertEqual(lines, [PEN, CUP])
        self.assertEqual(book.told(0), [("pen", 5, 0, 0, 0, 0), ("cup", 24, 0, 0, 0, 0)])
        again = book.undo()
        self.assertEqual(again, ("order", [PEN, CUP]))
        self.assertIsNot(again[1], deed[1])


class ListsToldEarlier(unittest.TestCase):
    def test_later_deeds_leave_them_as_they_were_told(self):
        book = some_book()
        given = [book.told(0), book.told(1), book.rows(0), book.rows(1), book.settled(0), book.settled(1)]
        copies = [list(told) for told in given]
        changes = [book.do(("pay", 0, 5)), book.do(("move", 0, 1, 100)), book.do(("order", [PEN]))]
        moves = book.net()
        for deed in (("deliver", 0, 0, 2), ("back", 0, 0, 4), ("swap", 1, 0, 6), ("pay", 1, 8), ("deliver", 2, 0, 1)):
            book.do(deed)
        book.net()
        for _ in range(12):
            book.undo()
        self.assertEqual(given, copies)
        self.assertEqual(changes, [[(0, -5)], [(0, 100), (1, -100)], []])
        self.assertEqual(moves, [("move", 0, 1, 35)])

    def test_the_lines_of_a_deed_taken_back_stay_when_it_is_done_again(self):
        book = Book()
        book.do(("order", [PEN, CUP]))
        deed = book.undo()
        book.do(("order", [CUP]))
        book.do(("deliver", 0, 0, 12))
        self.assertEqual(deed, ("order", [PEN, CUP]))


class TwoBooks(unittest.TestCase):
    def test_they_know_nothing_of_one_another(self):
        one, other = Book(), Book()
        one.do(("order", [PEN]))
        self.assertEqual((one.orders(), other.orders()), (1, 0))
        other.do(("order", [CUP]))
        other.do(("order", [PEN]))
        one.do(("deliver", 0, 0, 2))
        other.do(("pay", 0, 7))
        self.assertEqual(one.told(0), [("pen", 5, 2, 0, 0, 0)])
        self.assertEqual(other.told(0), [("cup", 24, 0, 0, 0, 0)])
        self.assertEqual([one.owed(0), other.owed(0), other.owed(1)], [240, -7, 0])
        self.assertEqual([one.rows(0), other.rows(0)], [[("deliver", 240)], [("pay", -7)]])

    def test_each_takes_its_own_deeds_back(self):
        one, other = some_book(), some_book()
        one.do(("pay", 0, 1))
        other.do(("pay", 0, 2))
        one.do(("pay", 1, 3))
        self.assertEqual([other.undo(), one.undo(), one.undo()], [("pay", 0, 2), ("pay", 1, 3), ("pay", 0, 1)])
        self.assertEqual(state(one), state(other))

    def test_the_same_lines_and_the_same_deed_in_both(self):
        lines = [PEN]
        deed = ("order", lines)
        one, other = Book(), Book()
        one.do(deed)
        other.do(deed)
        one.do(("deliver", 0, 0, 5))
        self.assertEqual(other.told(0), [("pen", 5, 0, 0, 0, 0)])
        self.assertEqual(other.do(("deliver", 0, 0, 5)), [(0, 600)])

    def test_one_is_full_and_the_other_is_not(self):
        one, other = Book(), Book()
        for _ in range(40):
            one.do(("order", [PEN]))
        self.assertEqual(other.do(("order", [PEN])), [])
        self.assertEqual((one.orders(), other.orders()), (40, 1))

    def test_one_is_netted_and_the_other_is_not(self):
        one, other = some_book(), some_book()
        self.assertEqual(one.net(), [("move", 0, 1, 130)])
        self.assertEqual(state(other), state(some_book()))
        self.assertEqual(other.net(), [("move", 0, 1, 130)])


if __name__ == "__main__":
    unittest.main()

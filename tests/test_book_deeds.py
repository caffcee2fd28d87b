"""Tests of orderflow.book: what each of the eight deeds does and changes (points 2 to 7 and 9 of the document)."""

import unittest

from orderflow.book import Book
from orderflow.lines import worth

PEN = ("pen", 5, 120, 1)
CUP = ("cup", 24, 900, 12)
NUT = ("nut", 7, 10, 3)


def book_of(*deeds):
    """A new book in which these deeds are done."""
    book = Book()
    for deed in deeds:
        book.do(deed)
    return book


def numbers(book, order=0, line=0):
    """Of a line: sent, home, again and credited."""
    return book.told(order)[line][2:]


class ANewBook(unittest.TestCase):
    def test_it_has_no_orders(self):
        self.assertEqual(Book().orders(), 0)

    def test_its_methods_are_its_own(self):
        for name in ("do", "undo", "orders", "told", "paid", "owed", "rows", "settled", "net"):
            self.assertIn(name, vars(Book))


class AnOrder(unittest.TestCase):
    def test_it_changes_nothing(self):
        book = Book()
        self.assertEqual(book.do(("order", [PEN, CUP])), [])
        self.assertIs(type(book.do(("order", [PEN]))), list)
        self.assertEqual((book.paid(0), book.owed(0)), (0, 0))

    def test_its_lines_as_they_are_told(self):
        book = book_of(("order", [PEN, CUP]))
        self.assertEqual(book.told(0), [("pen", 5, 0, 0, 0, 0), ("cup", 24, 0, 0, 0, 0)])
        self.assertIs(type(book.told(0)), list)
        self.assertEqual([type(line) for line in book.told(0)], [tuple, tuple])

    def test_the_next_one_has_the_next_number(self):
        book = Book()
        for number in range(4):
            self.assertEqual(book.orders(), number)
            book.do(("order", [("pen", number + 1, 120, 1)]))
        self.assertEqual([book.told(number)[0][1] for number in range(4)], [1, 2, 3, 4])

    def test_forty_orders(self):
        book = book_of(*[("order", [("pen", pieces, 1, 1)]) for pieces in range(1, 41)])
        self.assertEqual(book.orders(), 40)
        self.assertEqual(book.told(39), [("pen", 40, 0, 0, 0, 0)])
        self.assertEqual(book.do(("deliver", 39, 0, 40)), [(39, 40)])

    def test_one_line_and_twenty(self):
        for many in (1, 2, 19, 20):
            lines = [("pen", pieces, 120, 1) for pieces in range(1, many + 1)]
            book = book_of(("order", lines))
            self.assertEqual(book.told(0), [("pen", pieces, 0, 0, 0, 0) for pieces in range(1, many + 1)])
            self.assertEqual(book.do(("deliver", 0, many - 1, many)), [(0, 120 * many)])

    def test_items_of_one_letter_and_of_twelve(self):
        for item in ("a", "z", "m", "az", "abcdefghijkl", "zzzzzzzzzzzz", "order", "pay"):
            self.assertEqual(book_of(("order", [(item, 1, 1, 1)])).told(0)[0][0], item)

    def test_every_letter(self):
        for item in ("abcdefghijkl", "mnopqrstuvwx", "yz"):
            self.assertEqual(book_of(("order", [(item, 1, 1, 1)])).told(0)[0][0], item)

    def test_the_bounds_of_pieces(self):
        for pieces in (1, 1000000):
            book = book_of(("order", [("pen", pieces, 3, 1)]))
            self.assertEqual(book.do(("deliver", 0, 0, pieces)), [(0, 3 * pieces)])

    def test_the_bounds_of_cents(self):
        for cents in (0, 1, 1000000000):
            book = book_of(("order", [("pen", 2, cents, 1)]))
            self.assertEqual(book.do(("deliver", 0, 0, 2)), [(0, 2 * cents)])

    def test_the_bounds_of_a_pack(self):
        self.assertEqual(book_of(("order", [("pen", 1000, 7, 1)])).do(("deliver", 0, 0, 1000)), [(0, 7000)])
        self.assertEqual(book_of(("order", [("pen", 1000, 7, 1000)])).do(("deliver", 0, 0, 1000)), [(0, 7)])

    def test_two_lines_alike_are_two_lines(self):
        book = book_of(("order", [PEN, PEN]), ("deliver", 0, 1, 2))
        self.assertEqual(book.told(0), [("pen", 5, 0, 0, 0, 0), ("pen", 5, 2, 0, 0, 0)])


class Deliveries(unittest.TestCase):
    def test_one_piece(self):
        book = book_of(("order", [PEN]))
        self.assertEqual(book.do(("deliver", 0, 0, 1)), [(0, 120)])
        self.assertEqual(numbers(book), (1, 0, 0, 0))
        self.assertEqual((book.owed(0), book.paid(0)), (120, 0))

    def test_all_that_are_ordered(self):
        book = book_of(("order", [PEN]))
        self.assertEqual(book.do(("deliver", 0, 0, 5)), [(0, 600)])
        self.assertEqual(numbers(book), (5, 0, 0, 0))
        self.assertEqual(book.owed(0), 600)

    def test_all_that_are_still_to_come(self):
        book = book_of(("order", [PEN]), ("deliver", 0, 0, 2))
        self.assertEqual(book.do(("deliver", 0, 0, 3)), [(0, 360)])
        self.assertEqual(numbers(book), (5, 0, 0, 0))

    def test_it_is_of_that_line_and_of_that_order(self):
        book = book_of(("order", [PEN, CUP]), ("order", [CUP, PEN]))
        self.assertEqual(book.do(("deliver", 1, 0, 12)), [(1, 900)])
        self.assertEqual([numbers(book, order, line)[0] for order in (0, 1) for line in (0, 1)], [0, 0, 12, 0])
        self.assertEqual([book.owed(0), book.owed(1)], [0, 900])

    def test_the_change_may_be_nought(self):
        book = book_of(("order", [("gift", 3, 0, 1), ("nail", 5, 1, 4)]))
        self.assertEqual(book.do(("deliver", 0, 0, 3)), [(0, 0)])
        self.assertEqual(book.do(("deliver", 0, 1, 3)), [(0, 0)])
        self.assertEqual(book.do(("deliver", 0, 1, 1)), [(0, 1)])
        self.assertEqual(book.do(("deliver", 0, 1, 1)), [(0, 0)])

    def test_parts_come_to_what_the_whole_is_worth(self):
        for cents, pack in ((10, 3), (100, 12), (999, 1000), (0, 7), (7, 1), (1, 8)):
            book = book_of(("order", [("nut", 40, cents, pack)]))
            changes = [book.do(("deliver", 0, 0, part))[0][1] for part in (1, 1, 2, 3, 5, 8, 13, 7)]
            self.assertEqual(sum(changes), 40 * cents // pack)
            self.assertEqual(book.owed(0), 40 * cents // pack)

    def test_each_part_is_told_by_what_is_worth_more_behind_it(self):
        book = book_of(("order", [NUT]))
        changes = [book.do(("deliver", 0, 0, 1)) for _ in range(7)]
        self.assertEqual(changes, [[(0, cents)] for cents in (3, 3, 4, 3, 3, 4, 3)])


class PiecesThatComeBack(unittest.TestCase):
    def test_one_piece_for_good(self):
        book = book_of(("order", [PEN]), ("deliver", 0, 0, 3))
        self.assertEqual(book.do(("back", 0, 0, 1)), [(0, -120)])
        self.assertEqual(numbers(book), (3, 1, 0, 0))
        self.assertEqual(book.owed(0), 240)

    def test_all_that_are_kept_for_good(self):
        book = book_of(("order", [PEN]), ("deliver", 0, 0, 3), ("back", 0, 0, 1))
        self.assertEqual(book.do(("back", 0, 0, 2)), [(0, -240)])
        self.assertEqual(numbers(book), (3, 3, 0, 0))
        self.assertEqual(book.owed(0), 0)

    def test_what_came_back_for_good_is_not_still_to_come(self):
        book = book_of(("order", [PEN]), ("deliver", 0, 0, 3), ("back", 0, 0, 3))
        self.assertEqual(book.do(("deliver", 0, 0, 2)), [(0, 240)])
        self.assertEqual(numbers(book), (5, 3, 0, 0))
        with self.assertRaises(ValueError):
            book.do(("deliver", 0, 0, 1))

    def test_one_piece_to_be_delivered_anew(self):
        book = book_of(("order", [PEN]), ("deliver", 0, 0, 3))
        self.assertEqual(book.do(("swap", 0, 0, 1)), [(0, -120)])
        self.assertEqual(numbers(book), (3, 1, 1, 0))
        self.assertEqual(book.owed(0), 240)

    def test_all_that_are_kept_to_be_delivered_anew(self):
        book = book_of(("order", [PEN]), ("deliver", 0, 0, 5))
        self.assertEqual(book.do(("swap", 0, 0, 5)), [(0, -600)])
        self.assertEqual(numbers(book), (5, 5, 5, 0))
        self.assertEqual(book.owed(0), 0)

    def test_deliveries_after_a_swap_go_beyond_the_pieces_ordered(self):
        book = book_of(("order", [PEN]), ("deliver", 0, 0, 5), ("swap", 0, 0, 3))
        self.assertEqual(book.do(("deliver", 0, 0, 3)), [(0, 360)])
        self.assertEqual(numbers(book), (8, 3, 3, 0))
        self.assertEqual(book.do(("swap", 0, 0, 5)), [(0, -600)])
        self.assertEqual(book.do(("deliver", 0, 0, 5)), [(0, 600)])
        self.assertEqual(numbers(book), (13, 8, 8, 0))
        self.assertEqual(book.owed(0), 600)

    def test_after_a_swap_the_first_delivery_goes_on(self):
        book = book_of(("order", [PEN]), ("deliver", 0, 0, 2), ("swap", 0, 0, 1))
        self.assertEqual(book.do(("deliver", 0, 0, 4)), [(0, 480)])
        self.assertEqual(numbers(book), (6, 1, 1, 0))

    def test_back_and_swap_of_one_line(self):
        book = book_of(("order", [PEN]), ("deliver", 0, 0, 5), ("back", 0, 0, 2), ("swap", 0, 0, 3))
        self.assertEqual(numbers(book), (5, 5, 3, 0))
        self.assertEqual(book.do(("deliver", 0, 0, 3)), [(0, 360)])
        self.assertEqual(numbers(book), (8, 5, 3, 0))
        self.assertEqual(book.do(("back", 0, 0, 3)), [(0, -360)])
        self.assertEqual(numbers(book), (8, 8, 3, 0))

    def test_the_charge_is_what_the_kept_are_worth_rounded_down(self):
        for word in ("back", "swap"):
            book = book_of(("order", [NUT]), ("deliver", 0, 0, 7))
            changes = [book.do((word, 0, 0, 1))[0][1] for _ in range(7)]
            self.assertEqual(changes, [-3, -4, -3, -3, -4, -3, -3])
            self.assertEqual(book.owed(0), 0)

    def test_the_change_may_be_nought(self):
        for word in ("back", "swap"):
            book = book_of(("order", [("gift", 3, 0, 1)]), ("deliver", 0, 0, 2))
            self.assertEqual(book.do((word, 0, 0, 1)), [(0, 0)])

    def test_it_is_of_that_line_and_of_that_order(self):
        for word, again in (("back", 0), ("swap", 2)):
            book = book_of(("order", [PEN, PEN]), ("order", [PEN, PEN]))
            for order in (0, 1):
                for line in (0, 1):
                    book.do(("deliver", order, line, 4))
            self.assertEqual(book.do((word, 1, 0, 2)), [(1, -240)])
            told = [numbers(book, order, line) for order in (0, 1) for line in (0, 1)]
            self.assertEqual(told, [(4, 0, 0, 0), (4, 0, 0, 0), (4, 2, again, 0), (4, 0, 0, 0)])


class Credits(unittest.TestCase):
    def test_one_cent(self):
        book = book_of(("order", [PEN]), ("deliver", 0, 0, 2))
        self.assertEqual(book.do(("credit", 0, 0, 1)), [(0, -1)])
        self.assertEqual(numbers(book), (2, 0, 0, 1))
        self.assertEqual((book.owed(0), book.paid(0)), (239, 0))

    def test_the_whole_charge(self):
        book = book_of(("order", [PEN]), ("deliver", 0, 0, 2), ("credit", 0, 0, 40))
        self.assertEqual(book.do(("credit", 0, 0, 200)), [(0, -200)])
        self.assertEqual(numbers(book), (2, 0, 0, 240))
        self.assertEqual(book.owed(0), 0)

    def test_the_whole_charge_of_an_order_that_is_paid(self):
        book = book_of(("order", [PEN]), ("deliver", 0, 0, 2), ("pay", 0, 240))
        self.assertEqual(book.do(("credit", 0, 0, 240)), [(0, -240)])
        self.assertEqual(book.owed(0), -240)

    def test_it_is_of_that_line_and_of_that_order(self):
        book = book_of(("order", [PEN, PEN]), ("order", [PEN, PEN]), ("deliver", 1, 0, 1), ("deliver", 1, 1, 1))
        self.assertEqual(book.do(("credit", 1, 1, 7)), [(1, -7)])
        self.assertEqual([numbers(book, order, line)[3] for order in (0, 1) for line in (0, 1)], [0, 0, 0, 7])

    def test_pieces_delivered_later_are_worth_their_whole_price(self):
        book = book_of(("order", [PEN]), ("deliver", 0, 0, 1), ("credit", 0, 0, 120))
        self.assertEqual(book.do(("deliver", 0, 0, 1)), [(0, 120)])
        self.assertEqual(numbers(book), (2, 0, 0, 120))
        self.assertEqual(book.do(("credit", 0, 0, 120)), [(0, -120)])
        self.assertEqual(numbers(book), (2, 0, 0, 240))


class CreditedThatFalls(unittest.TestCase):
    def test_it_falls_to_what_the_kept_are_worth(self):
        for word, again in (("back", 0), ("swap", 2)):
            book = book_of(("order", [PEN]), ("deliver", 0, 0, 3), ("credit", 0, 0, 300))
            self.assertEqual(book.owed(0), 60)
            self.assertEqual(book.do((word, 0, 0, 2)), [(0, -60)])
            self.assertEqual(numbers(book), (3, 2, again, 120))
            self.assertEqual(book.owed(0), 0)

    def test_it_falls_to_nought_where_none_is_kept(self):
        for word, again in (("back", 0), ("swap", 3)):
            book = book_of(("order", [PEN]), ("deliver", 0, 0, 3), ("credit", 0, 0, 1))
            self.assertEqual(book.do((word, 0, 0, 3)), [(0, -359)])
            self.assertEqual(numbers(book), (3, 3, again, 0))

    def test_it_stays_where_the_kept_are_worth_as_much_or_more(self):
        for word in ("back", "swap"):
            for credited in (1, 239, 240):
                book = book_of(("order", [PEN]), ("deliver", 0, 0, 3), ("credit", 0, 0, credited))
                self.assertEqual(book.do((word, 0, 0, 1)), [(0, -120)])
                self.assertEqual(numbers(book)[3], credited)
                self.assertEqual(book.owed(0), 240 - credited)

    def test_it_falls_by_one_cent(self):
        for word in ("back", "swap"):
            book = book_of(("order", [PEN]), ("deliver", 0, 0, 3), ("credit", 0, 0, 241))
            self.assertEqual(book.do((word, 0, 0, 1)), [(0, -119)])
            self.assertEqual(numbers(book)[3], 240)

    def test_it_falls_to_a_worth_that_is_rounded_down(self):
        for word in ("back", "swap"):
            book = book_of(("order", [NUT]), ("deliver", 0, 0, 7), ("credit", 0, 0, 20))
            self.assertEqual(book.do((word, 0, 0, 2)), [(0, -3)])
            self.assertEqual(numbers(book)[3], 16)

    def test_what_is_delivered_anew_is_worth_its_whole_price(self):
        book = book_of(("order", [PEN]), ("deliver", 0, 0, 3), ("credit", 0, 0, 360), ("swap", 0, 0, 3))
        self.assertEqual(book.do(("deliver", 0, 0, 3)), [(0, 360)])
        self.assertEqual(numbers(book), (6, 3, 3, 0))

    def test_only_that_line_is_lowered(self):
        book = book_of(("order", [PEN, PEN]), ("deliver", 0, 0, 3), ("deliver", 0, 1, 3),
                       ("credit", 0, 0, 360), ("credit", 0, 1, 360), ("back", 0, 0, 3))
        self.assertEqual([numbers(book, 0, line)[3] for line in (0, 1)], [0, 360])

    def test_it_does_not_fall_where_pieces_are_delivered_or_money_flows(self):
        book = book_of(("order", [PEN]), ("deliver", 0, 0, 1), ("credit", 0, 0, 120))
        for deed in (("pay", 0, 9), ("refund", 0, 9), ("deliver", 0, 0, 1)):
            book.do(deed)
            self.assertEqual(numbers(book)[3], 120)


class Payments(unittest.TestCase):
    def test_one_cent(self):
        book = book_of(("order", [PEN]), ("deliver", 0, 0, 1))
        self.assertEqual(book.do(("pay", 0, 1)), [(0, -1)])
        self.assertEqual((book.paid(0), book.owed(0)), (1, 119))

    def test_more_than_is_owed(self):
        book = book_of(("order", [PEN]), ("deliver", 0, 0, 1))
        self.assertEqual(book.do(("pay", 0, 500)), [(0, -500)])
        self.assertEqual((book.paid(0), book.owed(0)), (500, -380))

    def test_ahead_of_any_delivery(self):
        book = book_of(("order", [PEN]))
        self.assertEqual(book.do(("pay", 0, 600)), [(0, -600)])
        self.assertEqual(book.do(("deliver", 0, 0, 5)), [(0, 600)])
        self.assertEqual((book.paid(0), book.owed(0)), (600, 0))

    def test_as_much_as_they_like(self):
        for great in (10 ** 9 + 1, 10 ** 40, 10 ** 5000):
            book = book_of(("order", [PEN]))
            self.assertTrue(book.do(("pay", 0, great)) == [(0, -great)])
            self.assertTrue((book.paid(0), book.owed(0)) == (great, -great))
            self.assertTrue(book.do(("refund", 0, great)) == [(0, great)])

    def test_it_is_for_that_order(self):
        book = book_of(("order", [PEN]), ("order", [PEN]), ("pay", 1, 5), ("pay", 1, 7))
        self.assertEqual([book.paid(0), book.paid(1)], [0, 12])
        self.assertEqual([book.owed(0), book.owed(1)], [0, -12])


class Refunds(unittest.TestCase):
    def test_one_cent(self):
        book = book_of(("order", [PEN]), ("pay", 0, 100))
        self.assertEqual(book.do(("refund", 0, 1)), [(0, 1)])
        self.assertEqual((book.paid(0), book.owed(0)), (99, -99))

    def test_all_that_is_overpaid(self):
        book = book_of(("order", [PEN]), ("deliver", 0, 0, 1), ("pay", 0, 500))
        self.assertEqual(book.do(("refund", 0, 380)), [(0, 380)])
        self.assertEqual((book.paid(0), book.owed(0)), (120, 0))

    def test_overpaid_for_pieces_that_came_back(self):
        book = book_of(("order", [PEN]), ("deliver", 0, 0, 5), ("pay", 0, 600), ("back", 0, 0, 2))
        self.assertEqual(book.do(("refund", 0, 240)), [(0, 240)])
        self.assertEqual((book.paid(0), book.owed(0)), (360, 0))

    def test_overpaid_by_a_credit(self):
        book = book_of(("order", [PEN]), ("deliver", 0, 0, 5), ("pay", 0, 600), ("credit", 0, 0, 50))
        self.assertEqual(book.do(("refund", 0, 50)), [(0, 50)])
        self.assertEqual((book.paid(0), book.owed(0)), (550, 0))

    def test_owed_is_the_sum_over_all_lines(self):
        book = book_of(("order", [PEN, CUP, NUT]), ("deliver", 0, 0, 2), ("deliver", 0, 1, 12), ("deliver", 0, 2, 2))
        self.assertEqual(book.owed(0), 240 + 900 + worth(2, 10, 3))
        book.do(("pay", 0, 1200))
        self.assertEqual(book.do(("refund", 0, 54)), [(0, 54)])


class Moves(unittest.TestCase):
    def test_one_cent(self):
        book = book_of(("order", [PEN]), ("order", [PEN]), ("pay", 0, 100))
        self.assertEqual(book.do(("move", 0, 1, 1)), [(0, 1), (1, -1)])
        self.assertEqual([book.paid(0), book.paid(1)], [99, 1])
        self.assertEqual([book.owed(0), book.owed(1)], [-99, -1])

    def test_all_that_is_overpaid(self):
        book = book_of(("order", [PEN]), ("order", [PEN]), ("deliver", 0, 0, 1), ("pay", 0, 500))
        self.assertEqual(book.do(("move", 0, 1, 380)), [(0, 380), (1, -380)])
        self.assertEqual([book.paid(0), book.paid(1)], [120, 380])
        self.assertEqual([book.owed(0), book.owed(1)], [0, -380])

    def test_the_first_order_is_told_first_whatever_its_number(self):
        book = book_of(("order", [PEN]), ("order", [PEN]), ("order", [PEN]), ("pay", 2, 100))
        self.assertEqual(book.do(("move", 2, 0, 30)), [(2, 30), (0, -30)])
        self.assertEqual([book.paid(order) for order in range(3)], [30, 0, 70])

    def test_to_an_order_that_owes_and_beyond_what_it_owes(self):
        book = book_of(("order", [PEN]), ("order", [PEN]), ("pay", 0, 200), ("deliver", 1, 0, 1))
        self.assertEqual(book.do(("move", 0, 1, 150)), [(0, 150), (1, -150)])
        self.assertEqual([book.owed(0), book.owed(1)], [-50, -30])

    def test_money_moved_may_be_moved_on_or_refunded(self):
        book = book_of(("order", [PEN]), ("order", [PEN]), ("pay", 0, 200), ("move", 0, 1, 200))
        self.assertEqual(book.do(("move", 1, 0, 50)), [(1, 50), (0, -50)])
        self.assertEqual(book.do(("refund", 1, 150)), [(1, 150)])
        self.assertEqual([book.paid(0), book.paid(1)], [50, 0])


class WhatIsGivenBack(unittest.TestCase):
    def test_pairs_are_tuples_of_whole_numbers_in_a_list(self):
        book = book_of(("order", [PEN]), ("order", [PEN]))
        for deed in (("deliver", 0, 0, 5), ("back", 0, 0, 1), ("swap", 0, 0, 1), ("credit", 0, 0, 9),
                     ("pay", 0, 999), ("refund", 0, 9), ("move", 0, 1, 9)):
            changes = book.do(deed)
            self.assertIs(type(changes), list)
            for pair in changes:
                self.assertIs(type(pair), tuple)
                self.assertEqual([type(part) for part in pair], [int, int])

    def test_paid_and_owed_are_whole_numbers(self):
        book = book_of(("order", [NUT]), ("deliver", 0, 0, 2), ("pay", 0, 3))
        self.assertIs(type(book.paid(0)), int)
        self.assertIs(type(book.owed(0)), int)
        self.assertIs(type(book.orders()), int)

    def test_asking_changes_nothing(self):
        book = book_of(("order", [NUT]), ("deliver", 0, 0, 7), ("credit", 0, 0, 20), ("back", 0, 0, 2))
        first = (book.orders(), book.told(0), book.paid(0), book.owed(0), book.rows(0), book.settled(0))
        again = (book.orders(), book.told(0), book.paid(0), book.owed(0), book.rows(0), book.settled(0))
        self.assertEqual(first, again)


if __name__ == "__main__":
    unittest.main()

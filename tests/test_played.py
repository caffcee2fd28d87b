"""Tests of orderflow.notes: texts that are played on a new book (the interface, with points 8, 9 and 15)."""

import unittest

from orderflow.book import Book
from orderflow.notes import played, read


class Played(unittest.TestCase):
    def test_no_texts(self):
        self.assertEqual(played([]), ([], []))

    def test_what_each_deed_changed_and_what_each_order_owes(self):
        texts = ["order pen 5 120 1, cup 24 900 12", "order pen 5 120 1", "deliver 0 0 5", "deliver 0 1 5",
                 "credit 0 0 500", "back 0 0 2", "swap 0 1 2", "pay 0 300", "deliver 1 0 1", "move 0 1 50",
                 "refund 0 5"]
        self.assertEqual(played(texts), ([
            [], [], [(0, 600)], [(0, 375)], [(0, -500)], [(0, -100)], [(0, -150)], [(0, -300)], [(1, 120)],
            [(0, 50), (1, -50)], [(0, 5)]], [-20, 70]))

    def test_texts_that_write_none(self):
        texts = ["", "order pen 5 120 1", "deliver 0 0", "Deliver 0 0 1", "deliver 0 0 1", "pay 0 01", "pay  0 1",
                 "order", "send 0 1", "pay 0 20"]
        self.assertEqual(played(texts), ([
            None, [], None, None, [(0, 120)], None, None, None, None, [(0, -20)]], [100]))

    def test_deeds_that_are_refused_by_each_class(self):
        texts = ["pay 0 1", "order pen 5 120 1", "order " + ", ".join(["pen 5 120 1"] * 21), "order pen 0 120 1",
                 "order pen 5 1000000001 1", "order pen 5 120 1001", "move 0 0 1", "move 0 1 1", "deliver 0 1 1",
                 "deliver 0 0 0", "deliver 0 0 6", "refund 0 1", "deliver 0 0 5"]
        self.assertEqual(played(texts), ([None, []] + [None] * 10 + [[(0, 600)]], [600]))

    def test_a_full_book(self):
        changes, owed = played(["order pen 5 120 1"] * 41 + ["pay 39 7", "pay 40 7"])
        self.assertEqual(changes, [[]] * 40 + [None, [(39, -7)], None])
        self.assertEqual(owed, [0] * 39 + [-7])

    def test_orders_that_owe_nothing(self):
        self.assertEqual(played(["order pen 5 120 1"] * 3), ([[], [], []], [0, 0, 0]))

    def test_changes_of_nought_are_told(self):
        self.assertEqual(played(["order gift 3 0 1", "deliver 0 0 1"]), ([[], [(0, 0)]], [0]))

    def test_great_numbers(self):
        great = "9" * 30
        self.assertEqual(played(["order pen 5 120 1", "pay 0 " + great, "refund 0 " + great, "pay 0 1" + great]),
                         ([[], [(0, -int(great))], [(0, int(great))], None], [0]))

    def test_it_is_what_a_book_does(self):
        texts = ["order pen 5 120 1, cup 24 900 12", "deliver 0 1 17", "pay 0 2000", "order cup 24 900 12",
                 "move 0 1 700", "deliver 1 0 24", "swap 1 0 11"]
        book = Book()
        changes = [book.do(read(text)) for text in texts]
        self.assertEqual(played(texts), (changes, [book.owed(0), book.owed(1)]))

    def test_a_pair_of_two_lists(self):
        pair = played(["order pen 5 120 1", "pay 0 1"])
        self.assertIs(type(pair), tuple)
        self.assertEqual([type(part) for part in pair], [list, list])

    def test_the_texts_stay_as_they_were(self):
        texts = ["order pen 5 120 1", "", "pay 0 1"]
        played(texts)
        self.assertEqual(texts, ["order pen 5 120 1", "", "pay 0 1"])

    def test_each_time_on_a_new_book(self):
        texts = ["order pen 5 120 1", "deliver 0 0 5"]
        first = played(texts)
        first[0][1].append("more")
        first[1].append("more")
        self.assertEqual(played(texts), ([[], [(0, 600)]], [600]))
        self.assertEqual(played(["deliver 0 0 5"]), ([None], []))


if __name__ == "__main__":
    unittest.main()

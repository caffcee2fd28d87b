"""Tests of orderflow.matching: covers matched with debts in their turn (point 11 of the document)."""

import itertools
import unittest

from orderflow.matching import matched


def matched_cent_by_cent(changes):
    """The same answer, worked out slowly: each cent of a debt beside the cent of a cover that it gets."""
    debts = [place for place, cents in enumerate(changes) for _ in range(cents)]
    covers = [place for place, cents in enumerate(changes) for _ in range(-cents)]
    pairs = list(zip(debts, covers))
    return [(debt, cover, len(list(cents))) for (debt, cover), cents in itertools.groupby(pairs)]


class OrdinaryRows(unittest.TestCase):
    def test_the_example_of_the_document(self):
        self.assertEqual(matched([5, -3, 0, -4, 1]), [(0, 1, 3), (0, 3, 2), (4, 3, 1)])

    def test_a_debt_and_its_cover(self):
        self.assertEqual(matched([5, -5]), [(0, 1, 5)])
        self.assertEqual(matched([1, -1]), [(0, 1, 1)])

    def test_a_cover_ahead_of_the_debt(self):
        self.assertEqual(matched([-5, 5]), [(1, 0, 5)])
        self.assertEqual(matched([-2, 0, -2, 3]), [(3, 0, 2), (3, 2, 1)])

    def test_the_debt_is_told_first_and_the_cover_behind_it(self):
        self.assertEqual(matched([0, -7, 0, 0, 7]), [(4, 1, 7)])

    def test_a_debt_that_is_not_covered_whole(self):
        self.assertEqual(matched([5, -3]), [(0, 1, 3)])
        self.assertEqual(matched([5, 2, -3]), [(0, 2, 3)])

    def test_a_cover_that_is_not_used_up(self):
        self.assertEqual(matched([3, -5]), [(0, 1, 3)])
        self.assertEqual(matched([3, -5, -2]), [(0, 1, 3)])

    def test_the_first_ones_come_first_and_not_the_greatest_or_those_that_fit(self):
        self.assertEqual(matched([1, 9, -9, -1]), [(0, 2, 1), (1, 2, 8), (1, 3, 1)])
        self.assertEqual(matched([3, 3, -1, -3]), [(0, 2, 1), (0, 3, 2), (1, 3, 1)])

    def test_debt_and_cover_that_end_together(self):
        self.assertEqual(matched([2, 3, -2, -3]), [(0, 2, 2), (1, 3, 3)])
        self.assertEqual(matched([2, -2, 3, -3]), [(0, 1, 2), (2, 3, 3)])

    def test_places_count_the_noughts(self):
        self.assertEqual(matched([0, 0, 4, 0, -1, 0, -3, 0]), [(2, 4, 1), (2, 6, 3)])


class EdgesOfRows(unittest.TestCase):
    def test_the_empty_row(self):
        self.assertEqual(matched([]), [])

    def test_noughts_alone(self):
        self.assertEqual(matched([0]), [])
        self.assertEqual(matched([0, 0, 0]), [])

    def test_debts_alone(self):
        self.assertEqual(matched([5]), [])
        self.assertEqual(matched([5, 0, 1, 7]), [])

    def test_covers_alone(self):
        self.assertEqual(matched([-5]), [])
        self.assertEqual(matched([-5, 0, -1, -7]), [])

    def test_one_debt_over_many_covers(self):
        self.assertEqual(matched([6, -1, -2, -3]), [(0, 1, 1), (0, 2, 2), (0, 3, 3)])
        self.assertEqual(matched([-1] * 50 + [40]), [(50, place, 1) for place in range(40)])

    def test_one_cover_over_many_debts(self):
        self.assertEqual(matched([-6, 1, 2, 3]), [(1, 0, 1), (2, 0, 2), (3, 0, 3)])
        self.assertEqual(matched([1] * 50 + [-40]), [(place, 50, 1) for place in range(40)])

    def test_great_numbers(self):
        great = 10 ** 40
        self.assertEqual(matched([great + 1, -great, -1, -1]), [(0, 1, great), (0, 2, 1)])
        self.assertEqual(matched([-3 * great, great, 2 * great - 1, 7]),
                         [(1, 0, great), (2, 0, 2 * great - 1), (3, 0, 1)])

    def test_numbers_of_thousands_of_figures(self):
        great = 10 ** 5000
        self.assertEqual(matched([great, 1, -great - 1]), [(0, 2, great), (1, 2, 1)])

    def test_a_long_row(self):
        row = [2, -1, 0, -1] * 5000
        wanted = []
        for place in range(0, 20000, 4):
            wanted += [(place, place + 1, 1), (place, place + 3, 1)]
        self.assertEqual(matched(row), wanted)


class TheAnswer(unittest.TestCase):
    def test_the_row_stays_as_it_was(self):
        for row in ([5, -3, 0, -4, 1], [-6, 1, 2, 3], [0, 0], [], [-1, 1]):
            as_it_was = list(row)
            matched(row)
            self.assertEqual(row, as_it_was)

    def test_each_answer_is_a_new_list(self):
        row = [5, -3, 0, -4, 1]
        first = matched(row)
        first.append("more")
        first[0] = None
        self.assertEqual(matched(row), [(0, 1, 3), (0, 3, 2), (4, 3, 1)])
        self.assertIsNot(matched([]), matched([]))
        self.assertIsNot(matched(row), row)

    def test_a_list_of_tuples_of_whole_numbers(self):
        answer = matched([5, -3, 0, -4, 1])
        self.assertIs(type(answer), list)
        for triple in answer:
            self.assertIs(type(triple), tuple)
            self.assertEqual([type(part) for part in triple], [int, int, int])
        self.assertIs(type(matched([])), list)

    def test_the_same_row_is_matched_the_same_again(self):
        row = [5, -3, 0, -4, 1]
        self.assertEqual([matched(row), matched(row)], [matched(list(row))] * 2)

    def test_every_short_row(self):
        for length in range(6):
            for row in itertools.product((-3, -1, 0, 1, 2), repeat=length):
                self.assertEqual(matched(list(row)), matched_cent_by_cent(row))


if __name__ == "__main__":
    unittest.main()

"""Tests of orderflow.lines: what some pieces of a line are worth (point 3 of the document)."""

import unittest

from orderflow.lines import worth


def worth_of_parts(parts, cents, pack):
    """What the parts come to, each by what is worth more behind it than ahead of it."""
    pieces = 0
    total = 0
    for part in parts:
        total += worth(pieces + part, cents, pack) - worth(pieces, cents, pack)
        pieces += part
    return total


class OrdinaryWorth(unittest.TestCase):
    def test_pieces_times_cents_by_pack(self):
        self.assertEqual(worth(5, 120, 1), 600)
        self.assertEqual(worth(24, 900, 12), 1800)
        self.assertEqual(worth(18, 900, 12), 1350)

    def test_it_is_rounded_down(self):
        self.assertEqual(worth(2, 900, 13), 138)
        self.assertEqual(worth(1, 1, 2), 0)
        self.assertEqual(worth(3, 1, 2), 1)
        self.assertEqual(worth(2, 1, 3), 0)
        self.assertEqual(worth(999, 1, 1000), 0)
        self.assertEqual(worth(1999, 1, 1000), 1)

    def test_it_is_rounded_once_and_not_pack_by_pack_or_piece_by_piece(self):
        self.assertEqual(worth(3, 5, 2), 7)
        self.assertEqual(worth(7, 10, 4), 17)
        self.assertEqual(worth(10, 7, 3), 23)

    def test_the_answer_is_a_whole_number(self):
        for pieces, cents, pack in ((5, 120, 1), (7, 10, 4), (0, 9, 7), (9, 0, 7), (10 ** 40, 3, 7)):
            self.assertIs(type(worth(pieces, cents, pack)), int)

    def test_the_same_numbers_are_worth_the_same_again(self):
        self.assertEqual([worth(7, 10, 4) for _ in range(3)], [17, 17, 17])

    def test_arguments_by_their_names(self):
        self.assertEqual(worth(pack=4, cents=10, pieces=7), 17)


class EdgesOfWorth(unittest.TestCase):
    def test_pieces_nought(self):
        for cents, pack in ((0, 1), (1, 1), (900, 12), (1000000000, 1), (1000000000, 1000)):
            self.assertEqual(worth(0, cents, pack), 0)

    def test_cents_nought(self):
        for pieces, pack in ((0, 1), (1, 1), (5, 12), (1000000, 1), (1000000, 1000), (10 ** 40, 7)):
            self.assertEqual(worth(pieces, 0, pack), 0)

    def test_a_pack_of_one(self):
        self.assertEqual(worth(1, 1, 1), 1)
        self.assertEqual(worth(7, 13, 1), 91)
        self.assertEqual(worth(1000000, 3, 1), 3000000)

    def test_pieces_below_at_and_above_a_multiple_of_the_pack(self):
        self.assertEqual([worth(pieces, 100, 12) for pieces in (11, 12, 13)], [91, 100, 108])
        self.assertEqual([worth(pieces, 100, 12) for pieces in (35, 36, 37)], [291, 300, 308])
        self.assertEqual([worth(pieces, 1, 12) for pieces in (11, 12, 13)], [0, 1, 1])
        self.assertEqual([worth(pieces, 7, 1000) for pieces in (999, 1000, 1001)], [6, 7, 7])
        self.assertEqual([worth(pieces, 999, 1000) for pieces in (1999, 2000, 2001)], [1997, 1998, 1998])

    def test_the_bounds_of_a_line(self):
        self.assertEqual(worth(1, 0, 1), 0)
        self.assertEqual(worth(1, 1, 1000), 0)
        self.assertEqual(worth(1, 1000000000, 1), 1000000000)
        self.assertEqual(worth(1, 1000000000, 1000), 1000000)
        self.assertEqual(worth(1000000, 1000000000, 1), 1000000000000000)
        self.assertEqual(worth(1000000, 1000000000, 1000), 1000000000000)
        self.assertEqual(worth(999999, 999999999, 1000), 999998999000)
        self.assertEqual(worth(999999, 999999999, 999), 1000999998999)
        self.assertEqual(worth(1000000, 999999999, 1000), 999999999000)

    def test_numbers_beyond_the_bounds_raise_no_error(self):
        self.assertEqual(worth(1000001, 1000000001, 1), 1000001001000001)
        self.assertEqual(worth(1001, 1000000001, 1001), 1000000001)
        self.assertEqual(worth(3003, 7, 1001), 21)
        self.assertEqual(worth(3, -1, 1), -3)
        self.assertEqual(worth(3, 1, -1), -3)

    def test_below_nought_it_is_rounded_down_too(self):
        self.assertEqual(worth(3, -1, 2), -2)
        self.assertEqual(worth(1, 1, -3), -1)

    def test_a_pack_of_nought_raises_no_error(self):
        self.assertEqual(worth(5, 120, 0), 0)


class ManyFigures(unittest.TestCase):
    def test_very_many_pieces(self):
        self.assertEqual(worth(10 ** 30, 1, 1), 10 ** 30)
        self.assertEqual(worth(10 ** 30, 1, 3), int("3" * 30))
        self.assertEqual(worth(10 ** 30 + 7, 3, 2), 1500000000000000000000000000010)
        self.assertEqual(worth(10 ** 30 - 1, 1, 1000), int("9" * 27))
        self.assertEqual(worth(10 ** 30, 1000000000, 1000), 10 ** 36)
        self.assertEqual(worth(10 ** 30 + 1, 999999999, 1000), 999999999000000000000000000000999999)

    def test_pieces_of_some_hundred_figures(self):
        self.assertEqual(worth(10 ** 300, 2, 9), int("2" * 300))
        self.assertEqual(worth(10 ** 300 - 1, 1, 9), int("1" * 300))
        self.assertEqual(worth(10 ** 400 + 999, 1, 1000), 10 ** 397)
        self.assertEqual(worth(10 ** 400 + 1000, 1, 1000), 10 ** 397 + 1)

    def test_one_piece_more_is_told_apart(self):
        many = 12 * 10 ** 40
        self.assertEqual([worth(many + more, 1, 12) - 10 ** 40 for more in (-1, 0, 11, 12)], [-1, 0, 0, 1])

    def test_no_whole_cent_is_missing_and_none_is_too_many(self):
        for pieces in (10 ** 30, 10 ** 30 + 1, 2 ** 200 - 1, 7 ** 150):
            for cents, pack in ((1, 7), (999999999, 1000), (1000000000, 997), (10 ** 35 + 3, 10 ** 33 + 7)):
                with self.subTest(pieces=pieces, cents=cents, pack=pack):
                    left = pieces * cents - worth(pieces, cents, pack) * pack
                    self.assertTrue(0 <= left < pack)


class PartsOfALine(unittest.TestCase):
    def test_piece_by_piece(self):
        for pieces, cents, pack in ((12, 100, 12), (13, 100, 12), (100, 1, 3), (50, 999, 1000), (20, 0, 7)):
            with self.subTest(pieces=pieces, cents=cents, pack=pack):
                self.assertEqual(worth_of_parts([1] * pieces, cents, pack), worth(pieces, cents, pack))

    def test_each_part_raises_the_worth_by_its_own_share(self):
        ahead = [worth(pieces, 100, 3) for pieces in range(4)]
        self.assertEqual(ahead, [0, 33, 66, 100])
        self.assertEqual([behind - before for before, behind in zip(ahead, ahead[1:])], [33, 33, 34])

    def test_each_way_to_part_a_line_in_two(self):
        for first in range(31):
            self.assertEqual(worth_of_parts([first, 30 - first], 101, 7), 432)

    def test_parts_of_many_sizes(self):
        parts = [1, 11, 12, 13, 0, 500, 999, 1000, 1001, 123456]
        self.assertEqual(worth_of_parts(parts, 999999999, 1000), 126992999873)
        self.assertEqual(worth_of_parts(list(reversed(parts)), 999999999, 1000), 126992999873)

    def test_parts_of_very_many_pieces(self):
        parts = [10 ** 30 + 1, 3, 2 ** 120, 10 ** 31 - 7]
        self.assertEqual(worth_of_parts(parts, 17, 12), sum(parts) * 17 // 12)

    def test_a_part_never_lowers_the_worth(self):
        for cents, pack in ((0, 5), (1, 12), (100, 12), (999, 7)):
            row = [worth(pieces, cents, pack) for pieces in range(60)]
            self.assertEqual(row, sorted(row))


if __name__ == "__main__":
    unittest.main()

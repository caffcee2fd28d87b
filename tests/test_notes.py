"""Tests of orderflow.notes: deeds as texts (points 14 and 15 of the document)."""

import unittest

from orderflow.errors import FlowError, NoDeed
from orderflow.notes import read, shown

PEN = ("pen", 5, 120, 1)
CUP = ("cup", 2, 900, 12)
THIRTY = 10 ** 30 - 1

# Each of the eight words, with numbers of few figures and of many.
WRITTEN = [
    (("order", [PEN]), "order pen 5 120 1"),
    (("order", [PEN, CUP]), "order pen 5 120 1, cup 2 900 12"),
    (("order", [PEN, CUP, PEN]), "order pen 5 120 1, cup 2 900 12, pen 5 120 1"),
    (("order", [("a", 0, 0, 0)]), "order a 0 0 0"),
    (("order", [("abcdefghijkl", 9, 10, 11)]), "order abcdefghijkl 9 10 11"),
    (("order", [("order", 1, 2, 3), ("pay", 4, 5, 6)]), "order order 1 2 3, pay 4 5 6"),
    (("order", [("z", THIRTY, THIRTY, THIRTY)]), f"order z {THIRTY} {THIRTY} {THIRTY}"),
    (("order", [PEN] * 20), "order " + ", ".join(["pen 5 120 1"] * 20)),
    (("order", [PEN] * 21), "order " + ", ".join(["pen 5 120 1"] * 21)),
    (("order", [CUP] * 100), "order " + ", ".join(["cup 2 900 12"] * 100)),
    (("deliver", 0, 1, 12), "deliver 0 1 12"),
    (("deliver", 0, 0, 0), "deliver 0 0 0"),
    (("deliver", 39, 19, 1000000), "deliver 39 19 1000000"),
    (("deliver", THIRTY, THIRTY, THIRTY), f"deliver {THIRTY} {THIRTY} {THIRTY}"),
    (("back", 9, 10, 11), "back 9 10 11"),
    (("swap", 3, 2, 1), "swap 3 2 1"),
    (("credit", 10, 0, 909), "credit 10 0 909"),
    (("pay", 3, 500), "pay 3 500"),
    (("pay", 0, 0), "pay 0 0"),
    (("pay", 9, 10), "pay 9 10"),
    (("pay", 12345678901234567890, 10 ** 29), "pay 12345678901234567890 1" + "0" * 29),
    (("refund", 7, 80), "refund 7 80"),
    (("refund", 40, THIRTY), "refund 40 " + "9" * 30),
    (("move", 5, 0, 1), "move 5 0 1"),
    (("move", 1, 1, 6), "move 1 1 6"),
]


class Shown(unittest.TestCase):
    def test_each_deed(self):
        for deed, text in WRITTEN:
            self.assertEqual(shown(deed), text)

    def test_the_deed_stays_as_it_was(self):
        lines = [PEN, CUP]
        deed = ("order", lines)
        shown(deed)
        self.assertEqual(lines, [PEN, CUP])
        self.assertEqual(shown(deed), shown(deed))

    def test_it_is_a_text(self):
        for deed, _ in WRITTEN:
            self.assertIs(type(shown(deed)), str)

    def test_numbers_somewhat_beyond_the_limit_raise_no_error(self):
        for deed in (("pay", 0, 10 ** 30), ("pay", -1, -5), ("order", [("pen", -5, 10 ** 31, 0)])):
            self.assertIs(type(shown(deed)), str)


class Read(unittest.TestCase):
    def test_each_deed(self):
        for deed, text in WRITTEN:
            self.assertEqual(read(text), deed)

    def test_what_was_shown_is_read_to_the_same_deed(self):
        for deed, text in WRITTEN:
            self.assertEqual(read(shown(deed)), deed)
            self.assertEqual(shown(read(text)), text)

    def test_every_count_of_figures(self):
        for figures in range(1, 31):
            for number in (10 ** (figures - 1), 10 ** figures - 1, int("123456789" * 4) // 10 ** (36 - figures)):
                self.assertEqual(read(f"pay 0 {number}"), ("pay", 0, number))
                self.assertEqual(read(shown(("deliver", number, 0, 0))), ("deliver", number, 0, 0))
                self.assertEqual(read(f"order pen {number} 1 1"), ("order", [("pen", number, 1, 1)]))

    def test_every_small_number(self):
        for number in range(1100):
            self.assertEqual(read(f"swap {number} 0 {number}"), ("swap", number, 0, number))

    def test_items_of_one_letter_to_twelve(self):
        for letters in range(1, 13):
            for item in ("a" * letters, "z" * letters, "abcdefghijkl"[:letters], "mnopqrstuvwx"[:letters]):
                self.assertEqual(read(f"order {item} 1 1 1"), ("order", [(item, 1, 1, 1)]))

    def test_a_tuple_with_the_lines_as_a_list_of_tuples(self):
        deed = read("order pen 5 120 1, cup 2 900 12")
        self.assertEqual((type(deed), type(deed[1])), (tuple, list))
        for line in deed[1]:
            self.assertIs(type(line), tuple)
            self.assertEqual([type(part) for part in line], [str, int, int, int])
        deed = read("move 5 0 1")
        self.assertIs(type(deed), tuple)
        self.assertEqual([type(part) for part in deed], [str, int, int, int])

    def test_each_list_of_lines_is_a_new_one(self):
        first = read("order pen 5 120 1")
        first[1].append(CUP)
        self.assertEqual(read("order pen 5 120 1"), ("order", [PEN]))

    def test_numbers_out_of_their_bounds_and_orders_of_many_lines(self):
        self.assertEqual(read("order pen 0 1000000001 0"), ("order", [("pen", 0, 1000000001, 0)]))
        self.assertEqual(read("order pen 1000001 0 1001"), ("order", [("pen", 1000001, 0, 1001)]))
        self.assertEqual(read("pay 99 0"), ("pay", 99, 0))
        self.assertEqual(read("move 7 7 0"), ("move", 7, 7, 0))
        self.assertEqual(len(read("order " + ", ".join(["pen 5 120 1"] * 300))[1]), 300)


class TextsThatAreNone(unittest.TestCase):
    def refused(self, *texts):
        for text in texts:
            with self.subTest(text=text):
                with self.assertRaises(FlowError) as held:
                    read(text)
                self.assertIs(type(held.exception), NoDeed)

    def test_empty_ones(self):
        self.refused("", " ", "  ", ",", ", ", "0", "0 1")

    def test_words_alone(self):
        for word in ("order", "deliver", "back", "swap", "credit", "pay", "refund", "move"):
            self.refused(word, word + " ", " " + word, word + "  ")

    def test_other_words(self):
        for word in ("send", "orders", "delivers", "bac", "backs", "wap", "payed", "net", "undo", "x", "0", "-"):
            self.refused(f"{word} 0 1", f"{word} 0 0 1", f"{word} pen 5 120 1", word)

    def test_other_cases_of_letters(self):
        self.refused("Pay 0 1", "PAY 0 1", "paY 0 1", "Deliver 0 0 1", "BACK 0 0 1", "Swap 0 0 1", "crediT 0 0 1",
                     "Refund 0 1", "Move 0 1 1", "Order pen 5 120 1", "ORDER pen 5 120 1", "order Pen 5 120 1",
                     "order PEN 5 120 1", "order peN 5 120 1")

    def test_another_count_of_parts(self):
        for word in ("deliver", "back", "swap", "credit", "move"):
            self.refused(f"{word} 0", f"{word} 0 1", f"{word} 0 0 1 1", f"{word} 0 0 1 1 1")
        for word in ("pay", "refund"):
            self.refused(f"{word} 0", f"{word} 0 0 1", f"{word} 0 0 1 1")

    def test_another_count_of_parts_in_a_line(self):
        self.refused("order pen", "order pen 5", "order pen 5 120", "order pen 5 120 1 1", "order 5 120 1",
                     "order pen 5 120 1, cup", "order pen 5 120 1, cup 2 900", "order pen 5 120, cup 2 900 12",
                     "order pen 5 120 1 9, cup 2 900 12", "order pen 5 120 1, cup 2 900 12 9", "order pen pen 5 120 1",
                     "order pen 5 120 1 cup 2 900 12", "order 0", "order 1", "order order pen 5 120 1")

    def test_blanks_ahead_or_at_the_end(self):
        self.refused(" pay 0 1", "pay 0 1 ", "  pay 0 1", "pay 0 1  ", " deliver 0 0 1", "deliver 0 0 1 ",
                     " order pen 5 120 1", "order pen 5 120 1 ", "order pen 5 120 1, cup 2 900 12 ")

    def test_blanks_doubled(self):
        self.refused("pay  0 1", "pay 0  1", "deliver 0 0  1", "deliver 0  0 1", "move  0 1 1", "order  pen 5 120 1",
                     "order pen  5 120 1", "order pen 5  120 1", "order pen 5 120  1",
                     "order pen 5 120 1,  cup 2 900 12")

    def test_blanks_doubled_in_place_of_a_part(self):
        self.refused("pay  1", "pay 0 ", "pay  ", "deliver  0 1", "deliver 0  1", "deliver 0 0 ", "order  5 120 1",
                     "order pen 5 120 ", "order pen  120 1")

    def test_blanks_left_out(self):
        self.refused("pay0 1", "pay01", "deliver0 0 1", "orderpen 5 120 1", "order pen5 120 1",
                     "order pen 5 120 1,cup 2 900 12", "order pen 5 120 1, cup2 900 12", "payment 0 1")

    def test_blanks_ahead_of_a_comma(self):
        self.refused("order pen 5 120 1 , cup 2 900 12", "order pen 5 120 1 ,cup 2 900 12", "order , pen 5 120 1")

    def test_commas_doubled(self):
        self.refused("order pen 5 120 1,, cup 2 900 12", "order pen 5 120 1, , cup 2 900 12",
                     "order pen 5 120 1, ,cup 2 900 12", "order pen 5 120 1,,cup 2 900 12")

    def test_commas_ahead_or_at_the_end(self):
        self.refused("order pen 5 120 1,", "order pen 5 120 1, ", "order , pen 5 120 1", "order, pen 5 120 1",
                     "order ,pen 5 120 1", ",order pen 5 120 1", "order,pen 5 120 1", "order ,", "order , ", "order,")

    def test_commas_elsewhere(self):
        self.refused("pay 0, 1", "pay, 0 1", "pay 0,1", "pay 0 1,", "pay 0 1, ", "pay 0 1, pay 0 1", "deliver 0, 0, 1",
                     "deliver 0 0 1, deliver 0 0 1", "order pen, 5 120 1", "order pen 5, 120 1", "order pen 5,120 1",
                     "order pen 5 120 1, order cup 2 900 12")

    def test_other_signs_between_lines(self):
        self.refused("order pen 5 120 1; cup 2 900 12", "order pen 5 120 1. cup 2 900 12",
                     "order pen 5 120 1 and cup 2 900 12")

    def test_items_that_are_none(self):
        for item in ("abcdefghijklm", "a" * 13, "a" * 40, "pen1", "1pen", "pe-n", "pe_n", "pen.", "`", "{", "pe{",
                     "[", "@", "1", "0", "'pen'", "pEn"):
            self.refused(f"order {item} 5 120 1", f"order {item} 5 120 1, cup 2 900 12",
                         f"order cup 2 900 12, {item} 5 120 1")

    def numbers_refused(self, *numbers):
        """In each place where a number may stand."""
        for number in numbers:
            self.refused(f"pay {number} 1", f"pay 0 {number}", f"refund {number} 1", f"refund 0 {number}")
            for word in ("deliver", "back", "swap", "credit", "move"):
                self.refused(f"{word} {number} 1 1", f"{word} 0 {number} 1", f"{word} 0 1 {number}")
            self.refused(f"order pen {number} 120 1", f"order pen 5 {number} 1", f"order pen 5 120 {number}",
                         f"order cup 2 900 12, pen 5 120 {number}", f"order pen {number} 120 1, cup 2 900 12")

    def test_figures_with_a_leading_nought(self):
        self.numbers_refused("00", "01", "007", "000", "0" * 30, "0" + "9" * 29, "0" * 31)

    def test_figures_with_a_sign(self):
        self.numbers_refused("-1", "+1", "-0", "+0", "--1", "1-", "1+", "-", "+")

    def test_thirty_one_figures_and_more(self):
        self.numbers_refused("1" + "0" * 30, "9" * 31, "1" * 60, "1" * 5000)

    def test_other_signs(self):
        self.numbers_refused("x", "1x", "x1", "a", "1.0", ".5", "5.", "1e3", "1_0", "1_000", "0x1", "0b1", "/", ":",
                             "1/", "1:", "one", "(1)", "'1'", "1'000", "#", "~", "!")

    def test_numbers_that_are_missing(self):
        self.numbers_refused("", ",")

    def test_a_deed_behind_a_deed(self):
        self.refused("pay 0 1 pay 0 1", "pay pay 0 1", "pay pay 1", "order pen 5 120 1 pay 0 1")


if __name__ == "__main__":
    unittest.main()

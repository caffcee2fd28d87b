"""Tests of orderflow.book over long runs of deeds, beside a plain reckoning that starts anew behind each deed."""

import unittest

from orderflow.book import Book
from orderflow.errors import FlowError, FullBook, NoLine, NoNumber, NoOrder, SameOrder, TooMuch
from orderflow.lines import worth
from orderflow.matching import matched

LINES = [("pen", 5, 120, 1), ("cup", 24, 900, 12), ("nut", 7, 10, 3), ("gift", 3, 0, 1), ("nail", 900, 7, 1000)]
OF_A_LINE = ("deliver", "back", "swap", "credit")


class Chooser:
    """Numbers that look as if by chance, the same ones in each run."""

    def __init__(self, seed):
        self.now = seed

    def below(self, many):
        self.now = (self.now * 6364136223846793005 + 1442695040888963407) % 2 ** 64
        return (self.now >> 33) % many

    def one_of(self, choices):
        return choices[self.below(len(choices))]


class Reckoning:
    """What a book should tell behind these deeds, reckoned from the first one on."""

    def __init__(self, deeds):
        self.lines = []
        self.paid = []
        self.rows = []
        for deed in deeds:
            self.add(deed)

    def kept_worth(self, line, fewer=0):
        return worth(line["sent"] - line["home"] - fewer, line["cents"], line["pack"])

    def charge(self, line):
        return self.kept_worth(line) - line["credited"]

    def owed(self, order):
        return sum(self.charge(line) for line in self.lines[order]) - self.paid[order]

    def add(self, deed):
        word = deed[0]
        ahead = [self.owed(order) for order in range(len(self.lines))]
        if word == "order":
            self.lines.append([dict(item=item, ordered=pieces, cents=cents, pack=pack, sent=0, home=0, again=0,
                                    credited=0) for item, pieces, cents, pack in deed[1]])
            self.paid.append(0)
            self.rows.append([])
            return
        if word in OF_A_LINE:
            self.add_to_line(word, self.lines[deed[1]][deed[2]], deed[3])
        else:
            self.paid[deed[1]] += deed[2] if word == "pay" else -deed[-1]
        if word == "move":
            self.paid[deed[2]] += deed[3]
        for order in deed[1:3] if word == "move" else deed[1:2]:
            self.rows[order].append((word, self.owed(order) - ahead[order]))

    def add_to_line(self, word, line, amount):
        if word in ("back", "swap"):
            line["credited"] -= max(0, line["credited"] - self.kept_worth(line, amount))
            line["home"] += amount
            line["again"] += amount if word == "swap" else 0
        else:
            line["sent" if word == "deliver" else "credited"] += amount

    def most(self, deed):
        """The most pieces or cents of such a deed; None where there is no bound."""
        if deed[0] not in OF_A_LINE:
            return None if deed[0] == "pay" else max(0, -self.owed(deed[1]))
        line = self.lines[deed[1]][deed[2]]
        if deed[0] == "deliver":
            return line["ordered"] - line["sent"] + line["again"]
        return self.charge(line) if deed[0] == "credit" else line["sent"] - line["home"]

    def refusal(self, deed):
        """The class that refuses a deed, of one that has its parts and, of an order, good lines; else None."""
        many = len(self.lines)
        if deed[0] == "order":
            return FullBook if many == 40 else None
        if any(not 0 <= order < many for order in (deed[1:3] if deed[0] == "move" else deed[1:2])):
            return NoOrder
        if deed[0] == "move" and deed[1] == deed[2]:
            return SameOrder
        if deed[0] in OF_A_LINE and not 0 <= deed[2] < len(self.lines[deed[1]]):
            return NoLine
        if deed[-1] < 1:
            return NoNumber
        most = self.most(deed)
        return TooMuch if most is not None and deed[-1] > most else None

    def state(self):
        return [([tuple(line[name] for name in ("item", "ordered", "sent", "home", "again", "credited"))
                  for line in self.lines[order]], self.paid[order], self.owed(order), self.rows[order],
                 matched([cents for _, cents in self.rows[order]])) for order in range(len(self.lines))]


def state(book):
    return [(book.told(order), book.paid(order), book.owed(order), book.rows(order), book.settled(order))
            for order in range(book.orders())]


def number_below(chooser, many):
    """A number from nought on below that one, now and then one beyond."""
    return chooser.one_of((-1, many)) if chooser.below(20) == 0 else chooser.below(max(1, many))


def next_deed(chooser, reckoning):
    """A deed, three times of four one that can be done."""
    deed = any_deed(chooser, reckoning)
    any_one = chooser.below(4) == 0
    while reckoning.refusal(deed) is not None and not any_one:
        deed = any_deed(chooser, reckoning)
    return deed


def any_deed(chooser, reckoning):
    """A deed that has its parts and, of an order, good lines."""
    word = chooser.one_of(("order", "pay", "pay", "refund", "move", "move") + OF_A_LINE * 5)
    if word == "order":
        return word, [chooser.one_of(LINES) for _ in range(2 + chooser.below(2))]
    order = number_below(chooser, len(reckoning.lines))
    if word in OF_A_LINE:
        deed = word, order, number_below(chooser, 2), 1
    elif word == "move":
        deed = word, order, number_below(chooser, len(reckoning.lines)), 1
    else:
        deed = word, order, 1
    most = 400
    if reckoning.refusal(deed) in (None, TooMuch):
        most = reckoning.most(deed) if word != "pay" else most
    return deed[:-1] + (chooser.one_of((most, most, 1, most // 2, chooser.below(most + 1), most + 1, 0, -1)),)


class LongRuns(unittest.TestCase):
    def lines_hold(self, book):
        """What point 7 says of each line, and that the rows add up."""
        for order in range(book.orders()):
            for _, ordered, sent, home, again, credited in book.told(order):
                self.assertTrue(0 <= sent - home <= ordered)
                self.assertTrue(sent <= ordered + again)
                self.assertTrue(0 <= again <= home and credited >= 0)
            self.assertEqual(sum(cents for _, cents in book.rows(order)), book.owed(order))

    def does(self, book, deeds, deed):
        """The book does or refuses the deed as the reckoning says; whether it did."""
        ahead = Reckoning(deeds)
        refusal = ahead.refusal(deed)
        if refusal is not None:
            with self.assertRaises(FlowError) as held:
                book.do(deed)
            self.assertIs(type(held.exception), refusal, deed)
            self.assertEqual(state(book), ahead.state())
            return False
        changes = book.do(deed)
        behind = Reckoning(deeds + [deed])
        touched = {"order": (), "move": deed[1:3]}.get(deed[0], deed[1:2])
        self.assertEqual(changes, [(order, behind.owed(order) - ahead.owed(order)) for order in touched])
        self.assertEqual(state(book), behind.state())
        return True

    def run_of(self, seed, many):
        chooser = Chooser(seed)
        book = Book()
        deeds = [("order", LINES[:3]), ("order", LINES[1:]), ("order", LINES)]
        for deed in deeds:
            book.do(deed)
        for _ in range(many):
            if chooser.below(12) == 0 and deeds:
                self.assertEqual(book.undo(), deeds.pop())
            deed = next_deed(chooser, Reckoning(deeds))
            if self.does(book, deeds, deed):
                deeds.append(deed)
            self.lines_hold(book)
        return book, deeds

    def test_deeds_done_refused_and_taken_back(self):
        words = {}
        for seed in range(1, 13):
            book, deeds = self.run_of(seed, 90)
            for deed in deeds:
                words[deed[0]] = words.get(deed[0], 0) + 1
            while deeds:
                self.assertEqual(book.undo(), deeds.pop())
                self.assertEqual(state(book), Reckoning(deeds).state())
        # A run in which some word never comes would tell nothing of it.
        self.assertEqual(len(words), 8)
        self.assertGreater(min(words.values()), 20)

    def test_netted_in_the_end(self):
        moves = 0
        for seed in range(21, 33):
            book, deeds = self.run_of(seed, 60)
            owed = [book.owed(order) for order in range(book.orders())]
            wanted = [("move", cover, debt, cents) for debt, cover, cents in matched(owed)]
            self.assertEqual(book.net(), wanted)
            self.assertEqual(state(book), Reckoning(deeds + wanted).state())
            moves += len(wanted)
        self.assertGreater(moves, 9)


if __name__ == "__main__":
    unittest.main()

"""The lines of an order: what may be ordered, what pieces are worth, and what has become of each line."""

from orderflow.errors import NoItem, NoLines, NoNumber

_MOST_LINES = 20
_MOST_LETTERS = 12
_MOST_PIECES = 1000000
_MOST_CENTS = 1000000000
_MOST_PACK = 1000


def worth(pieces, cents, pack):
    """So many pieces at so many cents for each pack of so many pieces, rounded down to a whole cent."""
    # Refusing numbers is left to the book, so even a pack of nought, which nothing can be divided by, is no error.
    if pack == 0:
        return 0
    return pieces * cents // pack


def is_item(text):
    """Whether a text is an item: so many letters, all of them from a to z."""
    return 1 <= len(text) <= _MOST_LETTERS and all(["a" <= sign <= "z" for sign in text])


def refuse_lines(lines):
    """Refuses what can't be the lines of an order."""
    if not 1 <= len(lines) <= _MOST_LINES:
        raise NoLines("an order has 1 to 20 lines")
    for item, pieces, cents, pack in lines:
        if not is_item(item):
            raise NoItem("an item is 1 to 12 letters from a to z")
        if not 1 <= pieces <= _MOST_PIECES:
            raise NoNumber("of a line 1 to 1000000 pieces are ordered")
        if not 0 <= cents <= _MOST_CENTS:
            raise NoNumber("a price is 0 to 1000000000 cents")
        if not 1 <= pack <= _MOST_PACK:
            raise NoNumber("a price is told for a pack of 1 to 1000 pieces")


class Line:
    """A line of an order, and what has become of its pieces and of its price."""

    def __init__(self, item, pieces, cents, pack):
        self.item = item
        self.ordered = pieces
        self.cents = cents
        self.pack = pack
        self.sent = 0
        self.home = 0
        self.again = 0
        self.credited = 0

    def kept(self):
        """How many pieces the customer has."""
        return self.sent - self.home

    def worth_kept(self):
        """What the pieces that the customer has are worth."""
        return worth(self.kept(), self.cents, self.pack)

    def charge(self):
        """What the line adds to what is owed for its order."""
        return self.worth_kept() - self.credited

    def most(self, word):
        """The most pieces (of a credit, cents) that a deed of that word may ask for."""
        if word == "deliver":
            return self.ordered - self.sent + self.again
        if word == "credit":
            return self.charge()
        return self.kept()

    def change(self, word, amount):
        """Does a deed of that word, one that may be done."""
        if word == "deliver":
            self.sent += amount
        elif word == "credit":
            self.credited += amount
        else:
            self.take_home(amount)
            if word == "swap":
                self.again += amount

    def take_home(self, pieces):
        """So many pieces are sent back."""
        self.home += pieces
        # What was credited for pieces that are gone would else make the charge fall below nought.
        self.credited = min(self.credited, self.worth_kept())

    def numbers(self):
        """The numbers that deeds change, for put_back."""
        return self.sent, self.home, self.again, self.credited

    def put_back(self, numbers):
        """Makes the line as it was when it told these numbers."""
        self.sent, self.home, self.again, self.credited = numbers

    def told(self):
        """The line as a book tells it."""
        return self.item, self.ordered, self.sent, self.home, self.again, self.credited

"""The book of one customer's orders: deeds are done and taken back, and it tells how the orders stand."""

from orderflow.errors import FullBook, NoDeed, NoLine, NoNumber, NoOrder, NothingDone, SameOrder, TooMuch
from orderflow.lines import refuse_lines
from orderflow.matching import matched
from orderflow.orders import Order

# Each word that a deed may begin with, and how many parts such a deed has, the word counted.
DEEDS = (
    ("order", 2),
    ("deliver", 4),
    ("back", 4),
    ("swap", 4),
    ("credit", 4),
    ("pay", 3),
    ("refund", 3),
    ("move", 4),
)
_OF_A_LINE = ("deliver", "back", "swap", "credit")
_MOST_ORDERS = 40


class Book:
    """The orders of one customer. Orders and the lines of an order are counted from nought."""

    def __init__(self):
        self._orders = []
        self._deeds = []

    def do(self, deed):
        """Does a deed; the pairs (order, cents) of what it changed: by how much more that order owes."""
        if not deed or (deed[0], len(deed)) not in DEEDS:
            raise NoDeed("a deed is one of the eight words with as many parts as it has")
        if deed[0] == "order":
            return self._begin(deed[1])
        self._refuse(deed)
        self._deeds.append(deed)
        return self._carry_out(deed)

    def undo(self):
        """Takes the last deed that stands back; that deed."""
        if not self._deeds:
            raise NothingDone("no deed stands")
        deed = self._deeds.pop()
        if deed[0] == "order":
            self._orders.pop()
            return deed
        self._orders[deed[1]].take_back()
        if deed[0] == "move":
            self._orders[deed[2]].take_back()
        return deed

    def orders(self):
        """How many orders there are."""
        return len(self._orders)

    def told(self, order):
        """For each line of an order (item, ordered, sent, home, again, credited)."""
        return [line.told() for line in self._found(order).lines]

    def paid(self, order):
        """What was paid for an order, and moved to it, less what was refunded and moved away."""
        return self._found(order).received

    def owed(self, order):
        """What is owed for an order; below nought where it is overpaid."""
        return self._found(order).owed()

    def rows(self, order):
        """The pairs (word, cents) of all that changed an order, in turn."""
        return list(self._found(order).changed)

    def settled(self, order):
        """The cents of an order's rows, matched: triples (debt, cover, cents) of the rows' places."""
        return matched([cents for _, cents in self._found(order).changed])

    def net(self):
        """Moves what orders are overpaid to those that owe; the list of these moves."""
        pairs = matched([order.owed() for order in self._orders])
        moves = [("move", cover, debt, cents) for debt, cover, cents in pairs]
        for move in moves:
            self.do(move)
        return moves

    def _begin(self, lines):
        """Does the deed of a new order; what it changed: nothing."""
        refuse_lines(lines)
        if len(self._orders) >= _MOST_ORDERS:
            raise FullBook("a book has 40 orders at the most")
        self._orders.append(Order(lines))
        # The list that was handed in stays its owner's, who may change it.
        self._deeds.append(("order", list(lines)))
        return []

    def _found(self, number):
        """The order of that number."""
        # Messages show no number: Python refuses to write one of very many figures.
        if not 0 <= number < len(self._orders):
            raise NoOrder("there is no such order")
        return self._orders[number]

    def _refuse(self, deed):
        """Refuses a deed of orders, other than a new one, that can't be done."""
        word, amount = deed[0], deed[-1]
        order = self._found(deed[1])
        if word == "move":
            self._found(deed[2])
            if deed[1] == deed[2]:
                raise SameOrder("money is moved to another order")
        if word in _OF_A_LINE and not 0 <= deed[2] < len(order.lines):
            raise NoLine("the order has no such line")
        if amount < 1:
            raise NoNumber("pieces and cents of a deed are 1 or more")
        if word in _OF_A_LINE:
            if amount > order.lines[deed[2]].most(word):
                raise TooMuch("that is more than the line lets be done")
        elif word != "pay" and amount > order.overpaid():
            raise TooMuch("that is more than the order is overpaid")

    def _carry_out(self, deed):
        """Does a deed of orders that there are, one that may be done; what it changed."""
        word, number, amount = deed[0], deed[1], deed[-1]
        order = self._orders[number]
        if word in _OF_A_LINE:
            return [(number, order.change_line(word, deed[2], amount))]
        if word == "pay":
            return [(number, order.receive(word, amount))]
        changes = [(number, order.receive(word, -amount))]
        if word == "move":
            other = self._orders[deed[2]]
            changes.append((deed[2], other.receive(word, amount)))
        return changes

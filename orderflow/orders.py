"""One order of a book: what is owed for it, all that changed it, and taking the last change back."""

from orderflow.lines import Line


class Order:
    """An order: its lines, what was received for it, and the pairs (word, cents) of what changed it."""

    def __init__(self, lines):
        self.lines = [Line(item, pieces, cents, pack) for item, pieces, cents, pack in lines]
        self.received = 0
        self.changed = []
        # For each pair of changed what was received ahead of it, the line that it changed, and that line's numbers.
        self._ahead = []

    def owed(self):
        """The charges of the lines, less what was received."""
        return sum([line.charge() for line in self.lines]) - self.received

    def overpaid(self):
        """By how much more was received than is charged."""
        return max(0, -self.owed())

    def change_line(self, word, place, amount):
        """Does a deed of a line; by how much more is owed behind it."""
        line = self.lines[place]
        charge = line.charge()
        self._ahead.append((self.received, line, line.numbers()))
        line.change(word, amount)
        more = line.charge() - charge
        self.changed.append((word, more))
        return more

    def receive(self, word, cents):
        """So many cents come in (below nought: go out); by how much more is owed behind it."""
        self._ahead.append((self.received, None, None))
        self.received += cents
        self.changed.append((word, -cents))
        return -cents

    def take_back(self):
        """Makes the order as it was ahead of the last change."""
        self.changed.pop()
        self.received, line, numbers = self._ahead.pop()
        if line is not None:
            line.put_back(numbers)

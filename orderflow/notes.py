"""Deeds as texts: written, read, and played on a new book."""

from orderflow.book import DEEDS, Book
from orderflow.errors import FlowError, NoDeed
from orderflow.lines import is_item

_MOST_FIGURES = 30


def shown(deed):
    """The text that writes a deed."""
    if len(deed) == 2 and deed[0] == "order":
        return "order " + ", ".join([_joined(line) for line in deed[1]])
    return _joined(deed)


def read(text):
    """The deed that a text writes."""
    word, _, rest = text.partition(" ")
    if word == "order":
        return "order", [_line(part) for part in rest.split(", ")]
    parts = text.split(" ")
    if (word, len(parts)) not in DEEDS:
        raise NoDeed("a text is one of the eight words with as many parts as it has, one blank between two")
    numbers = [_number(part) for part in parts[1:]]
    return (word, *numbers)


def played(texts):
    """What the deed of each text changed on a new book (None where refused), and what each order owes in the end."""
    book = Book()
    changes = []
    for text in texts:
        changes.append(_tried(book, text))
    return changes, [book.owed(order) for order in range(book.orders())]


def _joined(parts):
    """The parts of a deed or of a line, with one blank between two."""
    return " ".join([str(part) for part in parts])


def _line(text):
    """The line of an order that a text writes."""
    parts = text.split(" ")
    if len(parts) != 4 or not is_item(parts[0]):
        raise NoDeed("a line is an item and three numbers, one blank between two")
    item, pieces, cents, pack = parts
    return item, _number(pieces), _number(cents), _number(pack)


def _number(text):
    """The number that a text writes."""
    if not _is_number(text):
        raise NoDeed("a number is one to thirty figures, without a nought ahead of others")
    return int(text)


def _is_number(text):
    """Whether a text is a number: so many figures, the first no nought, or nought itself."""
    if text == "0":
        return True
    if not 1 <= len(text) <= _MOST_FIGURES or text[0] == "0":
        return False
    return all(["0" <= sign <= "9" for sign in text])


def _tried(book, text):
    """What the deed of a text changed in the book; None where text or deed was refused."""
    try:
        return book.do(read(text))
    except FlowError:
        return None

"""The refusals: each kind has its own class, and FlowError stands above them all."""


class FlowError(ValueError):
    """Any refusal."""


class NoDeed(FlowError):
    """What is no deed: an unknown word, another number of parts, or a text that writes none."""


class NoLines(FlowError):
    """An order has no line, or too many."""


class NoItem(FlowError):
    """The item of a line is none."""


class NoNumber(FlowError):
    """A number is out of its bounds."""


class FullBook(FlowError):
    """The book takes no more orders."""


class NoOrder(FlowError):
    """There is no such order."""


class SameOrder(FlowError):
    """Money is to be moved from an order to itself."""


class NoLine(FlowError):
    """The order has no such line."""


class TooMuch(FlowError):
    """The deed asks for more pieces or cents than it may."""


class NothingDone(FlowError):
    """There is no deed that can be taken back."""

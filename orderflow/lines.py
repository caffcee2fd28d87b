"""What the pieces of an order's line are worth."""


def worth(pieces, cents, pack):
    """So many pieces at so many cents for each pack of so many pieces, rounded down to a whole cent."""
    # Refusing numbers is left to the book, so even a pack of nought, which nothing can be divided by, is no error.
    if pack == 0:
        return 0
    return pieces * cents // pack

"""What the pieces of an order's line are worth."""


def worth(pieces, cents, pack):
    """So many pieces at so many cents for each pack of so many pieces, rounded down to a whole cent."""
    # No number is refused here, for that is left to the book; but by a pack of nought nothing can be divided.
    if pack == 0:
        return 0
    return pieces * cents // pack

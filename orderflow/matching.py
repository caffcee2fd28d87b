"""Which covers (what lowers a debt) go to which debts."""


def matched(changes):
    """The triples (debt, cover, cents) of a row of changes: the places of both, and the part that goes."""
    debts = [place for place, cents in enumerate(changes) if cents > 0]
    covers = [place for place, cents in enumerate(changes) if cents < 0]
    left = [abs(cents) for cents in changes]
    triples = []
    next_debt = 0
    next_cover = 0
    while next_debt < len(debts) and next_cover < len(covers):
        debt = debts[next_debt]
        cover = covers[next_cover]
        part = min(left[debt], left[cover])
        triples.append((debt, cover, part))
        left[debt] -= part
        left[cover] -= part
        if left[debt] == 0:
            next_debt += 1
        if left[cover] == 0:
            next_cover += 1
    return triples

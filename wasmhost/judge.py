"""The judge: claims about runs, and how to settle which one is right."""

from wasmhost.deeds import check_steps
from wasmhost.errors import BadClaim
from wasmhost.limits import MOST_STEPS
from wasmhost.machine.step import step
from wasmhost.save.digests import digest_of
from wasmhost.save.loader import load_save


def claims(data, steps):
    """Returns the list of the digests of the machine of a save and of the same machine behind each further step."""
    machine = load_save(data).machine
    check_steps(steps)
    kept = {}
    digests = [digest_of(machine, kept)]
    for _ in range(steps):
        # A machine that is not running stays as it is.
        digest = digests[-1]
        if step(machine):
            digest = digest_of(machine, kept)
        digests.append(digest)
    return digests


def narrow(first, second):
    """Returns the place at which two claims part, and the list of the places that were compared."""
    count = len(first)
    if count != len(second) or not 2 <= count <= MOST_STEPS + 1:
        raise BadClaim()
    if first[0] != second[0] or first[-1] == second[-1]:
        raise BadClaim()
    low = 0
    high = count - 1
    asked = []
    while high > low + 1:
        middle = (low + high) // 2
        asked.append(middle)
        if first[middle] == second[middle]:
            low = middle
        else:
            high = middle
    return low, asked


def judge(data, before, first, second):
    """Returns whose claim is the digest behind one step: "first", "second", "both" or "neither"."""
    machine = load_save(data).machine
    kept = {}
    if digest_of(machine, kept) != before:
        raise BadClaim()
    step(machine)
    digest = digest_of(machine, kept)
    if first == digest and second == digest:
        return "both"
    if first == digest:
        return "first"
    if second == digest:
        return "second"
    return "neither"

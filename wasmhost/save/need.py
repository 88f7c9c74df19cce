"""What a save needs."""

from wasmhost.errors import DamagedSave


def need(condition, place):
    """Checks a condition of this place of a save."""
    if not condition:
        raise DamagedSave(place)

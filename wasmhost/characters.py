"""The characters of strings."""

LOW_CHARACTERS = " !\"#$"

HIGH_CHARACTERS = "&'()*+,-./0123456789:;<=>?@ABCDEFGHIJKLMNOPQRSTUVWXYZ[\\]^_`abcdefghijklmnopqrstuvwxyz{|}~"


def character_of(code):
    """Returns the character with this ASCII code, or None if no string may contain it."""
    if 32 <= code <= 36:
        return LOW_CHARACTERS[code - 32]
    if 38 <= code <= 126:
        return HIGH_CHARACTERS[code - 38]
    return None

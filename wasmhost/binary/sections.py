"""Facts about files that reading and writing share."""

HEAD = (0, 97, 115, 109, 1, 0, 0, 0)

CUSTOM = 0
START = 8
DATA_COUNT = 12
FUNCTIONS = 3
CONTENTS = 10
MEMORY_SEGMENTS = 11

ORDER = (1, 2, 3, 4, 5, 13, 6, 7, 8, 9, 12, 10, 11)

SIGNATURE_MARK = 96
TABLE_MARK = 112
TAG_MARK = 0

MOST_BYTES = 4000

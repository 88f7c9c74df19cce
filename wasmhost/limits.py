"""Greatest numbers of things that several parts of the program allow."""

# In a name.
MOST_CHARACTERS = 60

# Instructions with code that are open at a time, in one function.
MOST_OPEN = 60

# In the list of one function.
MOST_LOCALS = 1000

# Characters in the text of a module.
MOST_TEXT = 20000

# In a list of names.
MOST_NAMES = 60

"""Greatest numbers of things that several parts of the program allow."""

# In a name.
MOST_CHARACTERS = 60

# Instructions with code that are open at a time, in one function.
MOST_OPEN = 60

# In the list of one function.
MOST_LOCALS = 1000

# Characters in the text of a module.
MOST_TEXT = 20000

# In a list of names.
MOST_NAMES = 60

# Parameters, and results, of a signature that a host function or an instance has.
MOST_KINDS = 16

# Host functions in a store.
MOST_HOSTS = 20

# Entries of a table in a store.
MOST_ENTRIES = 256

# Pages of a memory in a store.
MOST_MEMORY_PAGES = 16

# Instances in an engine.
MOST_INSTANCES = 8

# Steps that an engine takes at once.
MOST_STEPS = 2000

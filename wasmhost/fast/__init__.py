"""Blocks, which do several steps of a function at once."""

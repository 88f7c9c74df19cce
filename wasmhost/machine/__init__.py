"""Machines, which run the functions of a store."""

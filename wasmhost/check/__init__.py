"""Checking of modules."""

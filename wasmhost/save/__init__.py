"""Saves of engines."""

"""Modules as texts."""

"""Modules as bytes."""

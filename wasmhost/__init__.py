"""Wasmhost: a deterministic, metered host for WebAssembly modules."""

"""Orderflow: one customer's orders, delivered, sent back, paid and credited in parts."""

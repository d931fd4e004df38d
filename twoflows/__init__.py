"""What flows between two: pairs of places with ground and water on it."""

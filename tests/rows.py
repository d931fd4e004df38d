"""What several test files need: rows out of pairs, and a call over any number of pairs."""

import unittest

from twoflows.flows import wf_flow

TOP = 2 ** 30
REFUSED = [0, -22]
MOST = 4096


def call(pairs):
    """Call wf_flow with pairs of (a ground, a water, b ground, b water)."""
    return wf_flow(*[[pair[k] for pair in pairs] for k in range(4)])


def flows(pairs):
    """What flows for each pair, however many there are: in calls of at most 4,096."""
    told = []
    for start in range(0, len(pairs), MOST):
        part = pairs[start:start + MOST]
        answer = call(part)
        if answer[:2] != [1, len(part)] or len(answer) != 2 + len(part):
            raise AssertionError(f"not 1, {len(part)} and as many numbers: {answer[:5]}")
        told += answer[2:]
    return told


def flow(a_ground, a_water, b_ground, b_water):
    """What flows for one pair alone."""
    return flows([(a_ground, a_water, b_ground, b_water)])[0]


def rows_of(n):
    """Four plain rows of n numbers, all different from one another."""
    return [[(7 * i + 100 * k) % 1000 for i in range(n)] for k in range(4)]


class RowsCase(unittest.TestCase):
    def assert_same_row(self, got, expected, where=""):
        """Like assertEqual, which takes minutes to show how two long lists differ."""
        if got == expected:
            return
        for i, (one, other) in enumerate(zip(got, expected)):
            if one != other:
                self.fail(f"{where} at {i}: {one}, not {other}")
        self.fail(f"{where} {len(got)} numbers, not {len(expected)}")

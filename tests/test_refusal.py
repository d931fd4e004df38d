"""Promise 1: when -22 is answered, and when it isn't."""

import unittest

from rows import MOST, REFUSED, TOP, RowsCase, rows_of
from twoflows.flows import wf_flow

SIZES = (1, 2, 3, 9, 1000, MOST)


def places(n):
    return sorted({0, n // 2, n - 1})


class HowMany(RowsCase):
    def test_none_is_refused(self):
        self.assertEqual(wf_flow([], [], [], []), REFUSED)

    def test_one_is_taken(self):
        self.assertEqual(wf_flow([100], [100], [0], [0]), [1, 1, 25])

    def test_4096_are_taken(self):
        for n in (MOST - 1, MOST):
            with self.subTest(n=n):
                answer = wf_flow(*rows_of(n))
                self.assertEqual(answer[:2], [1, n])
                self.assertEqual(len(answer), 2 + n)

    def test_more_than_4096_are_refused(self):
        for n in (MOST + 1, MOST + 2, 4199, 4200):
            with self.subTest(n=n):
                self.assert_same_row(wf_flow(*rows_of(n)), REFUSED)
                self.assert_same_row(wf_flow([0] * n, [0] * n, [0] * n, [0] * n), REFUSED)


def with_number(number):
    """Calls with the number in each row, at the first, a middle and the last place: where, how many, the rows."""
    for n in SIZES:
        for k in range(4):
            for i in places(n):
                rows = rows_of(n)
                rows[k][i] = number
                yield f"{number} in row {k} at {i} of {n}", n, rows


class HowHigh(RowsCase):
    def test_2_to_the_30_is_taken(self):
        for number in (TOP - 1, TOP):
            for where, n, rows in with_number(number):
                answer = wf_flow(*rows)
                self.assertEqual(answer[:2], [1, n], where)
                self.assertEqual(len(answer), 2 + n, where)

    def test_one_more_is_refused(self):
        for where, n, rows in with_number(TOP + 1):
            self.assert_same_row(wf_flow(*rows), REFUSED, where)

    def test_far_more_is_refused(self):
        for number in (TOP + 2, 2 ** 31 - 1, 2 ** 31, 2 ** 32 - 1):
            for where, n, rows in with_number(number):
                self.assert_same_row(wf_flow(*rows), REFUSED, where)

    def test_2_to_the_30_everywhere_is_taken(self):
        for n in SIZES:
            row = [TOP] * n
            self.assert_same_row(wf_flow(row, row, row, row), [1, n] + [0] * n)

    def test_a_whole_row_too_high_is_refused(self):
        for k in range(4):
            rows = rows_of(20)
            rows[k] = [2 ** 32 - 1] * 20
            with self.subTest(row=k):
                self.assert_same_row(wf_flow(*rows), REFUSED)

    def test_the_bound_is_on_numbers_not_on_levels(self):
        self.assertEqual(wf_flow([TOP], [TOP], [TOP], [0]), [1, 1, TOP // 8])


class Both(RowsCase):
    def test_too_many_and_too_high(self):
        row = [2 ** 32 - 1] * (MOST + 1)
        self.assert_same_row(wf_flow(row, row, row, row), REFUSED)

    def test_all_four_rows_too_high(self):
        row = [TOP + 1]
        self.assert_same_row(wf_flow(row, row, row, row), REFUSED)


if __name__ == "__main__":
    unittest.main()

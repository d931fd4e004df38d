"""What holds, a to d, over every pair made of a few telling numbers."""

import itertools
import unittest

from rows import TOP, RowsCase, flows

SMALL = (0, 1, 3, 4, 5, 7, 8, 9, 12, 15, 16, 17, 31, 32, 100)
GREAT = (0, 3, 4, 8, 2 ** 29, 2 ** 29 + 5, TOP - 8, TOP - 7, TOP - 1, TOP)
STEPS = (1, 2, 4, 7, 8, 1000)


def all_pairs():
    return list(itertools.product(SMALL, repeat=4)) + list(itertools.product(GREAT, repeat=4))


PAIRS = all_pairs()


def turned(pair):
    return (pair[2], pair[3], pair[0], pair[1])


def raised(pair, k, step):
    return pair[:k] + (pair[k] + step,) + pair[k + 1:]


class WhatHolds(RowsCase):
    def test_a_either_way_about(self):
        forth = flows(PAIRS)
        back = flows([turned(pair) for pair in PAIRS])
        self.assert_same_row(forth, [-number for number in back])

    def test_a_never_more_than_there_is_and_never_up(self):
        for pair, number in zip(PAIRS, flows(PAIRS)):
            a_ground, a_water, b_ground, b_water = pair if number >= 0 else turned(pair)
            if number != 0:
                self.assertGreater(a_ground + a_water, b_ground + b_water, pair)
                self.assertLessEqual(4 * abs(number), a_water, pair)
                self.assertLessEqual(8 * abs(number), a_ground + a_water - b_ground - b_water, pair)

    def test_a_no_less_than_the_lesser_one(self):
        for pair, number in zip(PAIRS, flows(PAIRS)):
            if sum(pair[:2]) < sum(pair[2:]):
                pair, number = turned(pair), -number
            difference = sum(pair[:2]) - sum(pair[2:])
            one_more = number + 1
            self.assertTrue(4 * one_more > pair[1] or 8 * one_more > difference, pair)

    def test_b_more_at_a_no_less_flows_more_at_b_no_more(self):
        for k, step in itertools.product(range(4), STEPS):
            pairs = [pair for pair in PAIRS if pair[k] + step <= TOP]
            for pair, before, after in zip(pairs, flows(pairs), flows([raised(pair, k, step) for pair in pairs])):
                if k < 2:
                    self.assertGreaterEqual(after, before, (pair, k, step))
                else:
                    self.assertLessEqual(after, before, (pair, k, step))

    def test_c_all_heights_moved_up_alike(self):
        for step in STEPS + (TOP - 100, TOP):
            pairs = [pair for pair in PAIRS if max(pair[0], pair[2]) + step <= TOP]
            moved = [raised(raised(pair, 0, step), 2, step) for pair in pairs]
            self.assertGreater(len(pairs), 0)
            self.assert_same_row(flows(moved), flows(pairs), step)

    def test_d_something_flows_just_if_8_higher_with_4_of_water(self):
        for pair, number in zip(PAIRS, flows(PAIRS)):
            difference = sum(pair[:2]) - sum(pair[2:])
            self.assertEqual(number > 0, difference >= 8 and pair[1] >= 4, pair)
            self.assertEqual(number < 0, difference <= -8 and pair[3] >= 4, pair)


if __name__ == "__main__":
    unittest.main()

"""Promise 1: number i is what flows from place i of a to that of b."""

import unittest

from rows import TOP, RowsCase, call, flow, flows, rows_of
from twoflows.flows import wf_flow


class BothWays(unittest.TestCase):
    def check(self, pair, expected):
        a_ground, a_water, b_ground, b_water = pair
        with self.subTest(pair=pair):
            self.assertEqual(flow(a_ground, a_water, b_ground, b_water), expected)
            self.assertEqual(flow(b_ground, b_water, a_ground, a_water), -expected)


class Differences(BothWays):
    def test_up_to_7_nothing_flows(self):
        for difference in range(8):
            self.check((difference, 1000, 0, 1000), 0)

    def test_from_8_on_an_eighth_rounded_down(self):
        for difference, expected in ((8, 1), (9, 1), (15, 1), (16, 2), (17, 2), (23, 2), (24, 3), (800, 100)):
            self.check((difference, 1000, 0, 1000), expected)

    def test_the_difference_is_of_levels(self):
        self.check((0, 1008, 0, 1000), 1)
        self.check((0, 1007, 0, 1000), 0)
        self.check((500, 508, 900, 100), 1)
        self.check((500, 507, 900, 100), 0)

    def test_lower_ground_with_a_higher_level_gives(self):
        self.check((0, 1000, 200, 0), 100)

    def test_equal_levels(self):
        for pair in ((0, 0, 0, 0), (5, 5, 5, 5), (0, 1000, 1000, 0), (300, 700, 600, 400), (TOP, TOP, TOP, TOP),
                     (TOP, 0, 0, TOP)):
            self.check(pair, 0)


class Waters(BothWays):
    def test_up_to_3_nothing_flows(self):
        for water in range(4):
            self.check((1000, water, 0, 0), 0)

    def test_from_4_on_a_quarter_rounded_down(self):
        for water, expected in ((4, 1), (5, 1), (7, 1), (8, 2), (11, 2), (12, 3), (400, 100), (403, 100)):
            self.check((10000, water, 0, 0), expected)

    def test_the_water_of_the_lower_place_is_not_counted(self):
        self.check((5000, 4, 0, 2000), 1)
        self.check((5000, 3, 0, 2000), 0)

    def test_no_water_on_a_hill_beside_a_lake(self):
        self.check((1000, 0, 0, 500), 0)
        self.check((TOP, 0, 0, TOP - 1), 0)
        self.check((TOP, 0, 0, TOP // 2), 0)

    def test_a_lake_above_a_dry_place(self):
        self.check((0, 500, 100, 0), 50)


class TheLesser(BothWays):
    def test_the_quarter(self):
        self.check((100, 40, 0, 0), 10)
        self.check((57, 40, 0, 0), 10)

    def test_the_eighth(self):
        self.check((0, 400, 0, 0), 50)
        self.check((0, 400, 300, 0), 12)
        self.check((0, 400, 390, 0), 1)

    def test_both_alike(self):
        self.check((40, 40, 0, 0), 10)

    def test_one_apart(self):
        self.check((39, 40, 0, 0), 9)
        self.check((40, 39, 0, 0), 9)
        self.check((48, 43, 0, 0), 10)
        self.check((44, 44, 0, 0), 11)
        self.check((43, 44, 0, 0), 10)


class Rounding(unittest.TestCase):
    def test_toward_0_in_both_directions(self):
        for difference in range(64):
            with self.subTest(difference=difference):
                self.assertEqual(flow(difference, 1000, 0, 1000), difference // 8)
                self.assertEqual(flow(0, 1000, difference, 1000), -(difference // 8))
        for water in range(32):
            with self.subTest(water=water):
                self.assertEqual(flow(1000, water, 0, 0), water // 4)
                self.assertEqual(flow(0, 0, 1000, water), -(water // 4))


class GreatLevels(BothWays):
    def test_levels_of_2_to_the_31(self):
        self.check((TOP, TOP, TOP, TOP), 0)
        self.check((TOP, TOP, 0, 0), 2 ** 28)
        self.check((TOP, TOP, 0, TOP), 2 ** 27)
        self.check((TOP, TOP, TOP, TOP - 7), 0)
        self.check((TOP, TOP, TOP, TOP - 8), 1)
        self.check((TOP, TOP, TOP - 8, TOP), 1)
        self.check((TOP, TOP, TOP - 7, TOP), 0)
        self.check((TOP, TOP - 1, 0, 0), 2 ** 28 - 1)
        self.check((TOP - 1, TOP, 0, 0), 2 ** 28 - 1)
        self.check((TOP, 3, 0, 0), 0)
        self.check((TOP, 4, 0, 0), 1)


class Rows(RowsCase):
    def test_each_pair_by_itself_in_its_place(self):
        for n in (1, 2, 3, 5, 7, 8, 9, 15, 16, 17, 31, 33, 100, 1001, 4095, 4096):
            rows = rows_of(n)
            alone = [flow(*pair) for pair in zip(*rows)]
            with self.subTest(n=n):
                self.assert_same_row(wf_flow(*rows), [1, n] + alone)

    def test_one_flow_at_any_place_of_odd_rows(self):
        for n in (1, 7, 9, 13, 4095):
            for i in sorted({0, n // 2, n - 1}):
                pairs = [(50, 50, 50, 50)] * n
                pairs[i] = (0, 0, 80, 32)
                expected = [0] * n
                expected[i] = -8
                with self.subTest(n=n, place=i):
                    self.assert_same_row(call(pairs), [1, n] + expected)

    def test_a_row_worked_out_by_hand(self):
        a_grounds = [100, 0, 10, 7, 8, 0, 1000, 0, 50, 0, 20]
        a_waters = [40, 40, 0, 10, 10, 0, 3, 96, 0, 1, 99]
        b_grounds = [0, 100, 10, 0, 0, 90, 0, 0, 0, 2, 100]
        b_waters = [0, 40, 0, 10, 10, 12, 0, 0, 40, 6, 11]
        expected = [10, -10, 0, 0, 1, -3, 0, 12, 0, 0, 1]
        self.assertEqual(wf_flow(a_grounds, a_waters, b_grounds, b_waters), [1, 11] + expected)

    def test_both_signs_in_one_row(self):
        self.assertEqual(flows([(80, 80, 0, 0), (0, 0, 80, 80), (0, 0, 0, 0)]), [20, -20, 0])


if __name__ == "__main__":
    unittest.main()

"""The interface: names, kinds, and what a call leaves alone."""

import ast
import contextlib
import inspect
import io
import pathlib
import unittest
from unittest import mock

import twoflows
from rows import MOST, REFUSED, TOP, RowsCase, rows_of
from twoflows.flows import wf_flow

SOURCES = sorted(pathlib.Path(twoflows.__file__).parent.rglob("*.py"))


def too_high():
    rows = rows_of(9)
    rows[3][8] = TOP + 1
    return rows


def calls():
    """Rows of calls that are answered and of calls that are refused."""
    plain = [rows_of(n) for n in (0, 1, 2, 9, 64, MOST, MOST + 1)]
    equal_levels = [[5, 0, 30], [5, 40, 0], [5, 40, 10], [5, 0, 20]]
    return plain + [equal_levels, too_high()]


class Sealed(list):
    """A list that fails on any change, also on one that is taken back."""

    def refuse(self, *given, **named):
        raise AssertionError("what is handed in was changed")

    __setitem__ = __delitem__ = __iadd__ = __imul__ = refuse
    append = clear = extend = insert = pop = remove = reverse = sort = refuse


class Form(RowsCase):
    def test_the_arguments(self):
        names = list(inspect.signature(wf_flow).parameters)
        self.assertEqual(names, ["a_grounds", "a_waters", "b_grounds", "b_waters"])

    def test_the_arguments_by_name(self):
        answer = wf_flow(b_waters=[3], b_grounds=[5], a_waters=[100], a_grounds=[40])
        self.assertEqual(answer, [1, 1, 16])

    def test_a_list_of_whole_numbers(self):
        for rows in calls():
            answer = wf_flow(*rows)
            self.assertIs(type(answer), list)
            self.assertEqual({type(number) for number in answer}, {int})

    def test_1_how_many_and_they(self):
        self.assertEqual(wf_flow([8, 0, 0], [4, 4, 0], [0, 0, 8], [0, 4, 4]), [1, 3, 1, 0, -1])

    def test_a_refusal_is_its_number_alone(self):
        for rows in ([[], [], [], []], rows_of(MOST + 1), too_high()):
            self.assert_same_row(wf_flow(*rows), REFUSED)


class LeftAlone(RowsCase):
    def test_the_lists_are_the_same_afterwards(self):
        for rows in calls():
            before = [list(row) for row in rows]
            wf_flow(*rows)
            for row, copy in zip(rows, before):
                self.assert_same_row(row, copy)

    def test_the_lists_are_not_changed_for_a_while_either(self):
        for rows in calls():
            self.assert_same_row(wf_flow(*[Sealed(row) for row in rows]), wf_flow(*rows))

    def test_what_is_given_back_is_a_list_of_its_own(self):
        for rows in calls():
            answer = wf_flow(*rows)
            self.assertFalse(any(answer is row for row in rows))

    def test_one_list_handed_in_for_several_rows(self):
        row = [0, 40, 80, 400]
        other = [0, 0, 0, 0]
        self.assertEqual(wf_flow(row, row, row, row), [1, 4, 0, 0, 0, 0])
        self.assertEqual(wf_flow(row, row, other, other), [1, 4, 0, 10, 20, 100])
        self.assertEqual(wf_flow(other, other, row, row), [1, 4, 0, -10, -20, -100])


class NothingKept(RowsCase):
    def test_a_second_call_gives_the_same(self):
        for rows in calls():
            self.assert_same_row(wf_flow(*rows), wf_flow(*rows))

    def test_other_calls_in_between_change_nothing(self):
        first = [wf_flow(*rows) for rows in calls()]
        again = [wf_flow(*rows) for rows in reversed(calls())]
        for one, other in zip(first, again[::-1]):
            self.assert_same_row(other, one)

    def test_changing_what_was_given_back_changes_nothing(self):
        for rows in calls():
            answer = wf_flow(*rows)
            expected = list(answer)
            answer.append(5)
            answer[0] = 77
            self.assert_same_row(wf_flow(*rows), expected)

    def test_what_was_given_back_stays_as_it_was(self):
        kept = [wf_flow(*rows) for rows in calls()]
        copies = [list(answer) for answer in kept]
        for rows in calls():
            wf_flow(*rows)
        for answer, copy in zip(kept, copies):
            self.assert_same_row(answer, copy)

    def test_the_same_lists_with_other_numbers(self):
        rows = [[100], [40], [0], [0]]
        self.assertEqual(wf_flow(*rows), [1, 1, 10])
        rows[1][0] = 80
        self.assertEqual(wf_flow(*rows), [1, 1, 20])


class Silent(unittest.TestCase):
    def test_prints_and_reads_nothing(self):
        out, err = io.StringIO(), io.StringIO()
        untouched = mock.Mock(side_effect=AssertionError("something was read"))
        with contextlib.redirect_stdout(out), contextlib.redirect_stderr(err), \
                mock.patch("builtins.open", untouched), mock.patch("builtins.input", untouched), \
                mock.patch("sys.stdin", None):
            for rows in calls():
                wf_flow(*rows)
        self.assertEqual(out.getvalue() + err.getvalue(), "")

    def test_imports_nothing(self):
        self.assertGreaterEqual(len(SOURCES), 2)
        for path in SOURCES:
            for node in ast.walk(ast.parse(path.read_text())):
                self.assertNotIsInstance(node, (ast.Import, ast.ImportFrom), path.name)


class FormOfTheCode(unittest.TestCase):
    def test_only_python_files_lie_in_the_package(self):
        folder = pathlib.Path(twoflows.__file__).parent
        others = [p.name for p in folder.iterdir() if p.suffix != ".py" and p.name != "__pycache__"]
        self.assertEqual(others, [])

    def test_signs_and_sizes(self):
        for path in SOURCES:
            text = path.read_bytes().decode("ascii")
            self.assertTrue(all(sign == "\n" or " " <= sign <= "~" for sign in text), path.name)
            lines = text.splitlines()
            self.assertLessEqual(len(lines), 400, path.name)
            self.assertLessEqual(max(len(line) for line in lines), 120, path.name)

    def test_functions_are_small(self):
        for path in SOURCES:
            for node in ast.walk(ast.parse(path.read_text())):
                if isinstance(node, ast.FunctionDef):
                    self.assertLessEqual(node.end_lineno - node.lineno + 1, 40, node.name)


if __name__ == "__main__":
    unittest.main()

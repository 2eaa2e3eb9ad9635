package tests

import (
	"slices"
	"testing"

	"loop.example/g01411/impl"
)

// greedyByHand puts one row after the other. It also counts the rounds in which several words have most
// of the missing choices.
func (c arrayCase) greedyByHand(t int) ([]int64, int) {
	rows, ties := []int64{}, 0
	missing := c.missing(nil, t)
	for len(missing) > 0 {
		best, most, several := int64(-1), 0, false
		for w := range int64(len(c.digits)) {
			count := 0
			for _, choice := range missing {
				if c.has(w, choice) {
					count++
				}
			}
			several = several && count <= most || count == most
			if count > most {
				best, most = w, count
			}
		}
		if several {
			ties++
		}
		rows = append(rows, best)
		missing = slices.DeleteFunc(missing, func(choice []int64) bool { return c.has(best, choice) })
	}
	return rows, ties
}

// Greedy rows are in the order in which they are put, each of them the least word of those with the most.
func TestGreedyRows(t *testing.T) {
	unordered, tied := 0, 0
	for _, c := range append(fewArrayCases(t, 36), arrayCases(t)...) {
		for k := range c.choices {
			want, ties := c.greedyByHand(k + 1)
			rows, err := impl.GreedyRows(c.space, int64(k+1))
			if !slices.Equal(rows, want) || err != impl.ErrNone {
				t.Errorf("GreedyRows(%v, %d) = %v, %d instead of %v", c.space, k+1, rows, err, want)
			}
			tied += ties
			if !slices.IsSorted(rows) {
				unordered++
			}
		}
	}
	if unordered == 0 || tied == 0 {
		t.Errorf("%d lists are in another order, and %d rounds are tied", unordered, tied)
	}
}

// For all spaces, greedy rows have their strength, and each has choices that those before it lack. They
// are at most 84, so that ErrLimit does not occur.
func TestGreedyRowsHaveTheirStrength(t *testing.T) {
	most := 0
	for _, s := range spacesUpTo(t, impl.MaxWords) {
		for places := int64(1); places <= impl.MaxStrength && places <= int64(len(s.Sizes)); places++ {
			rows, err := impl.GreedyRows(s, places)
			bound, _ := impl.ChoiceBound(s, places)
			most = max(most, len(rows))
			if err != impl.ErrNone || int64(len(rows)) < bound || len(rows) == 0 || rows[0] != 0 {
				t.Errorf("GreedyRows(%v, %d) = %v, %d, and the bound is %d", s, places, rows, err, bound)
			}
			if strength, err := impl.StrengthOf(s, rows); strength < places || err != impl.ErrNone {
				t.Errorf("GreedyRows(%v, %d) = %v with the strength %d, %d", s, places, rows, strength, err)
			}
			fresh, err := impl.NewChoices(s, rows, places)
			if !slices.IsSortedFunc(fresh, func(x int64, y int64) int { return int(y - x) }) || slices.Contains(fresh, 0) || err != impl.ErrNone {
				t.Errorf("GreedyRows(%v, %d) = %v with new choices %v, %d", s, places, rows, fresh, err)
			}
		}
	}
	if most != 84 || most > impl.MaxRows {
		t.Errorf("a space has %d greedy rows", most)
	}
}

func TestGreedyRowsWrittenOut(t *testing.T) {
	for _, c := range []struct {
		sizes  []int64
		places int64
		want   []int64
	}{
		{[]int64{2, 2, 2}, 1, []int64{0, 7}}, {[]int64{2, 2, 2}, 2, []int64{0, 3, 5, 6}}, {[]int64{2, 2, 2}, 3, upTo(8)},
		{[]int64{4}, 1, upTo(4)}, {[]int64{2}, 1, upTo(2)}, {[]int64{2, 3}, 1, []int64{0, 4, 2}}, {[]int64{2, 3}, 2, upTo(6)},
		{[]int64{2, 2, 2, 2, 2, 2, 2, 2}, 1, []int64{0, 255}}, {[]int64{4, 4, 4, 4, 4}, 1, []int64{0, 341, 682, 1023}},
	} {
		rows, err := impl.GreedyRows(space(t, c.sizes...), c.places)
		checkCode(t, "GreedyRows", rows, err, c.want)
	}
}

// leanByHand leaves out, from the first row on, each one all of whose choices are in other rows left.
func (c arrayCase) leanByHand(rows []int64, t int) []int64 {
	left := slices.Clone(rows)
	for k := 0; k < len(left); {
		if others := without(left, k); c.hasAllChoices(others, left[k], t) {
			left = others
		} else {
			k++
		}
	}
	return left
}

// hasAllChoices reports whether rows have all choices of t places that one more row has.
func (c arrayCase) hasAllChoices(rows []int64, row int64, t int) bool {
	for _, choice := range c.choices[t-1] {
		if c.has(row, choice) && !slices.ContainsFunc(rows, func(other int64) bool { return c.has(other, choice) }) {
			return false
		}
	}
	return true
}

// checkLean also expects the same choices, and that no row of the lean ones can be left out. It returns how
// many rows are left out.
func checkLean(t *testing.T, c arrayCase, rows []int64) int {
	t.Helper()
	count := 0
	for k := range c.choices {
		want := c.leanByHand(rows, k+1)
		lean, err := impl.LeanRows(c.space, rows, int64(k+1))
		if !slices.Equal(lean, want) || err != impl.ErrNone {
			t.Errorf("LeanRows(%v, %v, %d) = %v, %d instead of %v", c.space, rows, k+1, lean, err, want)
		}
		missing, _ := impl.MissingChoices(c.space, rows, int64(k+1))
		still, _ := impl.MissingChoices(c.space, lean, int64(k+1))
		if !areEqualLists(missing, still) {
			t.Errorf("LeanRows(%v, %v, %d) = %v: not the same choices", c.space, rows, k+1, lean)
		}
		for i, row := range lean {
			if c.hasAllChoices(without(lean, i), row, k+1) {
				t.Errorf("LeanRows(%v, %v, %d) = %v: %d can be left out", c.space, rows, k+1, lean, row)
			}
		}
		again, err := impl.LeanRows(c.space, lean, int64(k+1))
		checkCode(t, "LeanRows of the lean ones", again, err, lean)
		count += len(rows) - len(lean)
	}
	return count
}

func TestLeanRows(t *testing.T) {
	out := 0
	for _, c := range arrayCases(t) {
		for _, rows := range c.rowLists() {
			if len(rows) <= 80 || len(c.digits) <= 64 {
				out += checkLean(t, c, rows)
			}
		}
	}
	if out == 0 {
		t.Errorf("no row is left out")
	}
}

func TestLeanRowsOfFewWords(t *testing.T) {
	for _, c := range fewArrayCases(t, 8) {
		n := int64(len(c.digits))
		for _, rows := range allCodes(n) {
			checkLean(t, c, rows)
		}
		for _, rows := range listsUpTo(n, 3) {
			checkLean(t, c, rows)
		}
	}
}

// MaxRows rows of the largest spaces.
func TestLeanRowsOfManyRows(t *testing.T) {
	for _, s := range largeSpaces(t) {
		c := newArrayCase(s)
		for _, rows := range c.rowLists() {
			if len(rows) < impl.MaxRows {
				continue
			}
			lean, err := impl.LeanRows(s, rows, 2)
			checkCode(t, "LeanRows", lean, err, c.leanByHand(rows, 2))
			missing, _ := impl.CountMissing(s, rows, 2)
			still, _ := impl.CountMissing(s, lean, 2)
			if missing != still || len(lean) == len(rows) {
				t.Errorf("LeanRows(%v, %v, 2) = %v", s, rows, lean)
			}
		}
	}
}

func TestLeanRowsWrittenOut(t *testing.T) {
	for _, c := range []struct {
		sizes  []int64
		rows   []int64
		places int64
		want   []int64
	}{
		{[]int64{2, 2, 2}, []int64{0, 0, 3, 5, 6}, 2, []int64{0, 3, 5, 6}}, {[]int64{2, 2, 2}, []int64{0, 3, 0, 5, 6}, 2, []int64{3, 0, 5, 6}},
		{[]int64{2, 2, 2}, nil, 3, nil}, {[]int64{2, 2, 2}, []int64{5, 5, 5}, 3, []int64{5}}, {[]int64{2, 2, 2}, []int64{5}, 1, []int64{5}},
		{[]int64{2, 2, 2}, []int64{1, 6, 0, 7}, 1, []int64{0, 7}}, {[]int64{2, 2, 2}, []int64{0, 7, 1, 6}, 1, []int64{1, 6}},
		{[]int64{2, 2, 2}, upTo(8), 2, []int64{1, 2, 4, 7}}, {[]int64{2}, []int64{1, 0, 1, 0, 0}, 1, []int64{1, 0}},
		{[]int64{4, 4, 4, 4, 4}, slices.Repeat([]int64{1023}, impl.MaxRows), 3, []int64{1023}},
	} {
		lean, err := impl.LeanRows(space(t, c.sizes...), c.rows, c.places)
		checkCode(t, "LeanRows", lean, err, c.want)
	}
}

// Pair numbers are held against the ways to choose.
func TestPairNumber(t *testing.T) {
	written := []int64{2, 4, 4, 5, 6, 6, 6, 6}
	for n := int64(1); n <= impl.MaxPlaces; n++ {
		want := int64(1)
		for choose(want-1, (want+1)/2) < n {
			want++
		}
		if number, err := impl.PairNumber(n); number != want || number != written[n-1] || err != impl.ErrNone {
			t.Errorf("PairNumber(%d) = %d, %d instead of %d", n, number, err, want)
		}
	}
}

// pairRowsByHand has, for each place, the digits of all rows, told as a set of rows.
func pairRowsByHand(n int64, count int64) []int64 {
	sets := numberLists(count-1, (count+1)/2)
	rows := make([]int64, count)
	for i, set := range sets[:n] {
		for _, number := range set {
			rows[number+1] += power(2, n-1-int64(i))
		}
	}
	return rows
}

// Pair rows have the strength 2, or 1 of one place, and are as many as the pair number.
func TestPairRows(t *testing.T) {
	written := [][]int64{
		{0, 1}, {0, 3, 2, 1}, {0, 6, 5, 3}, {0, 14, 13, 11, 7},
		{0, 29, 27, 22, 14, 1}, {0, 59, 54, 45, 28, 3}, {0, 118, 109, 91, 56, 7}, {0, 237, 218, 182, 113, 15},
	}
	for n := int64(1); n <= impl.MaxPlaces; n++ {
		number, _ := impl.PairNumber(n)
		s, rows, err := impl.PairRows(n)
		checkBuilt(t, "PairRows", s, rows, err, slices.Repeat([]int64{2}, int(n)), pairRowsByHand(n, number))
		checkCode(t, "PairRows", rows, err, written[n-1])
		if int64(len(rows)) != number {
			t.Errorf("PairRows(%d): %d rows instead of %d", n, len(rows), number)
		}
		if strength, err := impl.StrengthOf(s, rows); strength != min(2, n) || err != impl.ErrNone {
			t.Errorf("PairRows(%d) = %v with the strength %d, %d", n, rows, strength, err)
		}
	}
}

// isPairOf reports whether two places, told by bits for the rows in which they have the digit 1, have
// all four pairs of digits.
func isPairOf(x int, y int, rows int) bool {
	all := 1<<rows - 1
	return x&y != 0 && x&^y != 0 && y&^x != 0 && all&^(x|y) != 0
}

// mostPlaces tries all sets of places beyond some, from next on, and returns how many there can be at most.
func mostPlaces(rows int, taken []int, next int) int {
	most := len(taken)
	for x := next; x < 1<<rows; x++ {
		if !slices.ContainsFunc(taken, func(y int) bool { return !isPairOf(x, y, rows) }) {
			most = max(most, mostPlaces(rows, append(slices.Clone(taken), x), x+1))
		}
	}
	return most
}

// Fewer rows than the pair number do not have the strength 2, whatever they are.
func TestFewerRowsThanThePairNumber(t *testing.T) {
	for n := int64(2); n <= impl.MaxPlaces; n++ {
		number, _ := impl.PairNumber(n)
		if most := mostPlaces(int(number-1), nil, 0); int64(most) >= n {
			t.Errorf("PairNumber(%d) = %d, but %d rows are enough for %d places", n, number, number-1, most)
		}
	}
	for n := int64(2); n <= 3; n++ {
		s, _, _ := impl.PairRows(n)
		for _, rows := range listsUpTo(power(2, n), 3) {
			if strength, _ := impl.StrengthOf(s, rows); strength > 1 {
				t.Errorf("%v have the strength %d", rows, strength)
			}
		}
	}
}

// No pair row can be left out.
func TestPairRowsAreLean(t *testing.T) {
	for n := int64(1); n <= impl.MaxPlaces; n++ {
		s, rows, _ := impl.PairRows(n)
		lean, err := impl.LeanRows(s, rows, min(2, n))
		checkCode(t, "LeanRows of pair rows", lean, err, rows)
	}
}

package tests

import (
	"slices"
	"testing"

	"loop.example/g01411/impl"
)

// arrayCase is a space with the digits of all its words, and all its choices of 1, 2 and 3 places.
type arrayCase struct {
	space   impl.Space
	digits  [][]int64
	choices [][][]int64
}

func newArrayCase(s impl.Space) arrayCase {
	c := arrayCase{space: s, digits: digitLists(s.Sizes)}
	for places := range min(int64(impl.MaxStrength), int64(len(s.Sizes))) {
		c.choices = append(c.choices, choicesByHand(s, places+1))
	}
	return c
}

// choicesByHand finds the choices of t places in no order that counts, and then puts them in order.
func choicesByHand(s impl.Space, t int64) [][]int64 {
	choices := [][]int64{}
	for _, places := range numberLists(int64(len(s.Sizes)), t) {
		sizes := []int64{}
		for _, i := range places {
			sizes = append(sizes, s.Sizes[i])
		}
		for _, digits := range digitLists(sizes) {
			choices = append(choices, slices.Concat(places, digits))
		}
	}
	slices.SortFunc(choices, slices.Compare)
	return choices
}

// has reports whether a row has a choice.
func (c arrayCase) has(row int64, choice []int64) bool {
	t := len(choice) / 2
	for k, i := range choice[:t] {
		if c.digits[row][i] != choice[t+k] {
			return false
		}
	}
	return true
}

// missing are the choices of t places that none of some rows has.
func (c arrayCase) missing(rows []int64, t int) [][]int64 {
	missing := [][]int64{}
	for _, choice := range c.choices[t-1] {
		if !slices.ContainsFunc(rows, func(row int64) bool { return c.has(row, choice) }) {
			missing = append(missing, choice)
		}
	}
	return missing
}

// strength is the greatest number of places of which no choice is missing.
func (c arrayCase) strength(rows []int64) int64 {
	strength := int64(0)
	for k := range c.choices {
		if len(c.missing(rows, k+1)) == 0 {
			strength = int64(k + 1)
		}
	}
	return strength
}

// rowLists are rows of many kinds: none, one, equal ones, in any order, few and MaxRows of them.
func (c arrayCase) rowLists() [][]int64 {
	n := int64(len(c.digits))
	lists := [][]int64{nil, {}, {0}, {n - 1}, {n / 2, n / 2}, {n - 1, 0}, {0, 1, n - 1, 0}}
	first := upTo(n)[:min(n, impl.MaxRows)]
	last := upTo(n)[max(0, n-impl.MaxRows):]
	slices.Reverse(last)
	lists = append(lists, first, last, first[:len(first)/2], last[1:], slices.Repeat([]int64{n - 1}, impl.MaxRows))
	for _, count := range []int64{3, 6, 10, 30, 80, impl.MaxRows} {
		rows := []int64{}
		for k := range count {
			rows = append(rows, (k*k*k*7+k*(n/3+1)+count)%n)
		}
		lists = append(lists, rows)
	}
	return lists
}

// arrayCases are small spaces and the largest ones.
func arrayCases(t *testing.T) []arrayCase {
	cases := []arrayCase{}
	for _, s := range append(smallSpaces(t), largeSpaces(t)...) {
		cases = append(cases, newArrayCase(s))
	}
	return cases
}

// fewArrayCases are all spaces of up to so many words.
func fewArrayCases(t *testing.T, words int64) []arrayCase {
	cases := []arrayCase{}
	for _, s := range spacesUpTo(t, words) {
		cases = append(cases, newArrayCase(s))
	}
	return cases
}

// Numbers of choices are held against all choices one after the other.
func TestCountChoices(t *testing.T) {
	for _, c := range append(fewArrayCases(t, 64), arrayCases(t)...) {
		for k, choices := range c.choices {
			count, err := impl.CountChoices(c.space, int64(k+1))
			if count != int64(len(choices)) || err != impl.ErrNone {
				t.Errorf("CountChoices(%v, %d) = %d, %d instead of %d", c.space, k+1, count, err, len(choices))
			}
		}
	}
}

// The number of choices of t places is the sum of the products of the sizes of any t places.
func TestCountChoicesOfAllSpaces(t *testing.T) {
	for _, s := range spacesUpTo(t, impl.MaxWords) {
		sums := []int64{1, 0, 0, 0}
		for _, q := range s.Sizes {
			for k := impl.MaxStrength; k > 0; k-- {
				sums[k] += q * sums[k-1]
			}
		}
		for k := int64(1); k <= impl.MaxStrength && k <= int64(len(s.Sizes)); k++ {
			if count, err := impl.CountChoices(s, k); count != sums[k] || err != impl.ErrNone {
				t.Errorf("CountChoices(%v, %d) = %d, %d instead of %d", s, k, count, err, sums[k])
			}
		}
	}
}

// Each row has one choice of each list of places, and no others.
func TestHasChoice(t *testing.T) {
	for _, c := range append(fewArrayCases(t, 24), newArrayCase(space(t, 2, 2, 2, 2, 2, 2, 2, 2)), newArrayCase(space(t, 4, 4, 4, 4, 4))) {
		for row := range c.digits {
			if len(c.digits) > 64 && row%37 != 0 && row != len(c.digits)-1 {
				continue
			}
			for k, choices := range c.choices {
				count := int64(0)
				for _, choice := range choices {
					has, err := impl.HasChoice(c.space, int64(row), choice)
					if has != c.has(int64(row), choice) || err != impl.ErrNone {
						t.Errorf("HasChoice(%v, %d, %v) = %v, %d", c.space, row, choice, has, err)
					}
					if has {
						count++
					}
				}
				if want := choose(int64(len(c.space.Sizes)), int64(k+1)); count != want {
					t.Errorf("%v: the row %d has %d choices of %d places", c.space, row, count, k+1)
				}
			}
		}
	}
}

// checkRows holds all results for rows against the choices that are missing by hand.
func checkRows(t *testing.T, c arrayCase, rows []int64) {
	t.Helper()
	for k := range c.choices {
		places := int64(k + 1)
		want := c.missing(rows, k+1)
		missing, err := impl.MissingChoices(c.space, rows, places)
		if !areEqualLists(missing, want) || err != impl.ErrNone {
			t.Errorf("MissingChoices(%v, %v, %d) = %v, %d instead of %v", c.space, rows, places, missing, err, want)
		}
		count, err := impl.CountMissing(c.space, rows, places)
		if count != int64(len(want)) || err != impl.ErrNone {
			t.Errorf("CountMissing(%v, %v, %d) = %d, %d instead of %d", c.space, rows, places, count, err, len(want))
		}
	}
	strength, err := impl.StrengthOf(c.space, rows)
	if want := c.strength(rows); strength != want || err != impl.ErrNone {
		t.Errorf("StrengthOf(%v, %v) = %d, %d instead of %d", c.space, rows, strength, err, want)
	}
}

func TestMissingChoices(t *testing.T) {
	for _, c := range arrayCases(t) {
		for _, rows := range c.rowLists() {
			checkRows(t, c, rows)
		}
	}
}

// All sets of rows of the spaces of up to 9 words, and all lists of up to three of those of up to 8.
func TestMissingChoicesOfFewWords(t *testing.T) {
	strengths := map[int64]int{}
	for _, c := range fewArrayCases(t, 9) {
		n := int64(len(c.digits))
		for _, rows := range allCodes(n) {
			checkRows(t, c, rows)
			strengths[c.strength(rows)]++
		}
		if n <= 8 {
			for _, rows := range listsUpTo(n, 3) {
				checkRows(t, c, rows)
			}
		}
	}
	for strength := range int64(impl.MaxStrength + 1) {
		if strengths[strength] == 0 {
			t.Errorf("no rows have the strength %d: %v", strength, strengths)
		}
	}
}

// Rows have what their strength says in any order, and also with equal ones.
func TestStrengthsInAnyOrder(t *testing.T) {
	c := newArrayCase(space(t, 2, 2, 2))
	for _, order := range permutations(4) {
		rows := moved([]int64{0, 3, 5, 6}, order)
		checkRows(t, c, rows)
		for i := range rows {
			checkRows(t, c, slices.Insert(slices.Clone(rows), i, rows[3-i], rows[i]))
			checkRows(t, c, without(rows, i))
		}
	}
}

// strengthCase has rows written out, with their strength.
type strengthCase struct {
	space    impl.Space
	rows     []int64
	strength int64
}

func strengthCases(t *testing.T) []strengthCase {
	two, three, eight := space(t, 2), space(t, 2, 2, 2), space(t, 2, 2, 2, 2, 2, 2, 2, 2)
	return []strengthCase{

		{three, []int64{0, 3, 5, 6}, 2}, {three, []int64{6, 5, 3, 0}, 2}, {three, []int64{0, 3, 5}, 1}, {three, []int64{0, 7}, 1},
		{three, []int64{0, 3, 3}, 0}, {three, []int64{}, 0}, {three, upTo(8), 3}, {three, upTo(7), 2}, {three, []int64{1, 2, 4, 7, 7}, 2},
		{two, nil, 0}, {two, []int64{1}, 0}, {two, []int64{1, 0}, 1}, {two, []int64{0, 0}, 0}, {two, []int64{0, 1, 1}, 1},
		{space(t, 4), []int64{3, 1, 0}, 0}, {space(t, 4), []int64{3, 1, 0, 2}, 1}, {space(t, 4), slices.Repeat(upTo(4), 50), 1},
		{space(t, 2, 3), upTo(6), 2}, {space(t, 2, 3), []int64{0, 4, 5}, 1}, {space(t, 2, 3), []int64{0, 1, 2}, 0},
		{space(t, 3, 3, 3), []int64{0, 4, 8, 10, 14, 15, 20, 21, 25}, 2},
		// The words of an even weight have all digits at any three places.
		{space(t, 2, 2, 2, 2), []int64{0, 3, 5, 6, 9, 10, 12, 15}, 3},
		{eight, []int64{0, 255}, 1}, {eight, slices.Repeat([]int64{0}, impl.MaxRows), 0}, {eight, upTo(impl.MaxRows), 2},
		{eight, []int64{0, 237, 218, 182, 113, 15}, 2},
	}
}

func TestStrengthsWrittenOut(t *testing.T) {
	for _, c := range strengthCases(t) {
		if strength, err := impl.StrengthOf(c.space, c.rows); strength != c.strength || err != impl.ErrNone {
			t.Errorf("StrengthOf(%v, %v) = %d, %d instead of %d", c.space, c.rows, strength, err, c.strength)
		}
	}
}

func TestMissingChoicesWrittenOut(t *testing.T) {
	three, mixed := space(t, 2, 2, 2), space(t, 2, 3)
	for _, c := range []struct {
		space  impl.Space
		rows   []int64
		places int64
		want   [][]int64
	}{
		{three, []int64{0, 3, 5}, 2, [][]int64{{0, 1, 1, 1}, {0, 2, 1, 0}, {1, 2, 1, 0}}},
		{three, []int64{0}, 1, [][]int64{{0, 1}, {1, 1}, {2, 1}}},
		{three, []int64{0, 7, 7, 0}, 1, nil},
		{three, []int64{0, 1, 2, 3, 4, 5, 7}, 3, [][]int64{{0, 1, 2, 1, 1, 0}}},
		{mixed, nil, 1, [][]int64{{0, 0}, {0, 1}, {1, 0}, {1, 1}, {1, 2}}},
		{mixed, []int64{5, 0}, 2, [][]int64{{0, 1, 0, 1}, {0, 1, 0, 2}, {0, 1, 1, 0}, {0, 1, 1, 1}}},
		{space(t, 4), []int64{2, 1}, 1, [][]int64{{0, 0}, {0, 3}}},
	} {
		missing, err := impl.MissingChoices(c.space, c.rows, c.places)
		if !areEqualLists(missing, c.want) || err != impl.ErrNone {
			t.Errorf("MissingChoices(%v, %v, %d) = %v, %d instead of %v", c.space, c.rows, c.places, missing, err, c.want)
		}
	}
}

// Choice bounds are held against the products of any t sizes.
func TestChoiceBound(t *testing.T) {
	for _, s := range spacesUpTo(t, impl.MaxWords) {
		for places := int64(1); places <= impl.MaxStrength && places <= int64(len(s.Sizes)); places++ {
			want := int64(0)
			for _, list := range numberLists(int64(len(s.Sizes)), places) {
				product := int64(1)
				for _, i := range list {
					product *= s.Sizes[i]
				}
				want = max(want, product)
			}
			if bound, err := impl.ChoiceBound(s, places); bound != want || err != impl.ErrNone {
				t.Errorf("ChoiceBound(%v, %d) = %d, %d instead of %d", s, places, bound, err, want)
			}
		}
	}
}

// Rows of the strength t are not fewer than the bound.
func TestFewerRowsThanTheChoiceBound(t *testing.T) {
	for _, c := range append(fewArrayCases(t, 9), arrayCases(t)...) {
		lists := c.rowLists()
		if n := int64(len(c.digits)); n <= 9 {
			lists = allCodes(n)
		}
		for _, rows := range lists {
			strength, _ := impl.StrengthOf(c.space, rows)
			for places := int64(1); places <= strength; places++ {
				if bound, _ := impl.ChoiceBound(c.space, places); int64(len(rows)) < bound {
					t.Errorf("%v: %v are fewer than %d for %d places", c.space, rows, bound, places)
				}
			}
		}
	}
}

// checkNewChoices holds new choices against those that are missing in the rows before, and their sum
// against all that are missing.
func checkNewChoices(t *testing.T, c arrayCase, rows []int64) {
	t.Helper()
	for k, choices := range c.choices {
		want := []int64{}
		for end := range rows {
			before, after := c.missing(rows[:end], k+1), c.missing(rows[:end+1], k+1)
			want = append(want, int64(len(before)-len(after)))
		}
		fresh, err := impl.NewChoices(c.space, rows, int64(k+1))
		checkCode(t, "NewChoices", fresh, err, want)
		missing, _ := impl.CountMissing(c.space, rows, int64(k+1))
		if sumOf(fresh)+missing != int64(len(choices)) {
			t.Errorf("NewChoices(%v, %v, %d) = %v, and %d are missing", c.space, rows, k+1, fresh, missing)
		}
	}
}

func TestNewChoices(t *testing.T) {
	for _, c := range append(fewArrayCases(t, 8), arrayCases(t)...) {
		n := int64(len(c.digits))
		if n <= 6 {
			for _, rows := range listsUpTo(n, 3) {
				checkNewChoices(t, c, rows)
			}
		}
		for _, rows := range c.rowLists() {
			// Longer ones are only asked of where all that is missing is soon found.
			if len(rows) <= 12 || n <= 64 && len(rows) <= 80 {
				checkNewChoices(t, c, rows)
			}
		}
	}
}

// The new choices of MaxRows rows: the first row has one for each list of places, and a row that is there
// again has none.
func TestNewChoicesOfManyRows(t *testing.T) {
	for _, c := range arrayCases(t) {
		for _, rows := range c.rowLists() {
			for k, choices := range c.choices {
				fresh, err := impl.NewChoices(c.space, rows, int64(k+1))
				missing, _ := impl.CountMissing(c.space, rows, int64(k+1))
				if len(fresh) != len(rows) || sumOf(fresh)+missing != int64(len(choices)) || err != impl.ErrNone {
					t.Errorf("NewChoices(%v, %v, %d) = %v, %d, and %d are missing", c.space, rows, k+1, fresh, err, missing)
				}
				for end, count := range fresh {
					if end == 0 && count != choose(int64(len(c.space.Sizes)), int64(k+1)) || slices.Contains(rows[:end], rows[end]) && count != 0 {
						t.Errorf("NewChoices(%v, %v, %d) = %v: wrong at %d", c.space, rows, k+1, fresh, end)
					}
				}
			}
		}
	}
}

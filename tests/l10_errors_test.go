package tests

import (
	"math"
	"slices"
	"testing"

	"loop.example/g01411/impl"
)

// failRows expects an error of all functions that take rows.
func failRows(t *testing.T, s impl.Space, rows []int64, places int64, want int64) {
	t.Helper()
	fails(t, "MissingChoices", lists(impl.MissingChoices(s, rows, places)), want)
	fails(t, "CountMissing", number(impl.CountMissing(s, rows, places)), want)
	fails(t, "LeanRows", list(impl.LeanRows(s, rows, places)), want)
	fails(t, "NewChoices", list(impl.NewChoices(s, rows, places)), want)
}

// failPlaces expects an error of all functions that take a number of places without rows.
func failPlaces(t *testing.T, s impl.Space, places int64, want int64) {
	t.Helper()
	fails(t, "CountChoices", number(impl.CountChoices(s, places)), want)
	fails(t, "ChoiceBound", number(impl.ChoiceBound(s, places)), want)
	fails(t, "GreedyRows", list(impl.GreedyRows(s, places)), want)
}

// noStrengths are numbers beyond 1 to MaxStrength, and those of more places than a space has.
func noStrengths(s impl.Space) []int64 {
	numbers := []int64{0, -1, -3, impl.MaxStrength + 1, impl.MaxPlaces, 64, 1 << 32, 1<<62 + 1, math.MinInt64, math.MaxInt64}
	for places := len(s.Sizes) + 1; places <= impl.MaxStrength; places++ {
		numbers = append(numbers, int64(places))
	}
	return numbers
}

// noRows are lists with something that is no word of a space of n words, or with too many rows.
func noRows(n int64) [][]int64 {
	lists := [][]int64{make([]int64, impl.MaxRows+1), slices.Repeat([]int64{n - 1, 0}, impl.MaxRows), make([]int64, 5000)}
	for _, w := range noWords(n) {
		lists = append(lists, []int64{w}, []int64{0, w}, []int64{w, 0}, []int64{n - 1, 0, w, w}, append(make([]int64, impl.MaxRows-1), w), append(make([]int64, 300), w))
	}
	return lists
}

// noChoices are lists that tell no choice of a space, each for one reason alone.
func noChoices(s impl.Space) [][]int64 {
	n := int64(len(s.Sizes))
	choices := [][]int64{nil, {}, {0}, {0, 0, 0}, {n - 1}, make([]int64, 5), make([]int64, 64), make([]int64, 5001)}
	for _, i := range []int64{-1, n, n + 1, impl.MaxPlaces, 64, math.MinInt64, math.MaxInt64} {
		choices = append(choices, []int64{i, 0}, []int64{min(i, 0), max(i, 0), 0, 0})
	}
	for i, q := range s.Sizes {
		for _, d := range []int64{-1, q, q + 1, 1 << 32, math.MinInt64, math.MaxInt64} {
			choices = append(choices, []int64{int64(i), d})
		}
		choices = append(choices, []int64{int64(i)}, []int64{int64(i), 0, 0}, []int64{int64(i), int64(i), 0, 0})
	}
	for i := range n - 1 {
		choices = append(choices, []int64{i + 1, i, 0, 0}, []int64{i, i + 1, 0}, []int64{i, i + 1, 0, 0, 0},
			[]int64{i, i + 1, s.Sizes[i], 0}, []int64{i, i + 1, 0, s.Sizes[i+1]}, []int64{i, i + 1, i + 1, 0, 0, 0}, []int64{i, i, i + 1, 0, 0, 0})
	}
	for i := range n - 2 {
		choices = append(choices, []int64{i, i + 2, i + 1, 0, 0, 0}, []int64{i + 1, i, i + 2, 0, 0, 0}, []int64{i, i + 1, i + 2, 0, 0},
			[]int64{i, i + 1, i + 2, 0, 0, -1}, []int64{i, i + 1, i + 2, 0, 0, 0, 0}, []int64{i, i + 1, i + 2, 0, 0, s.Sizes[i+2]})
	}
	// All places that there are, and digits of them, but too many.
	for count := int64(impl.MaxStrength + 1); count <= n; count++ {
		choices = append(choices, append(upTo(count), make([]int64, count)...))
	}
	return choices
}

func TestArraysOfNoSpace(t *testing.T) {
	// Beside something that is no space, no other argument counts, also one that is wrong itself.
	for _, s := range noSpaces() {
		for _, places := range append(noStrengths(s), 1, 2, 3) {
			failPlaces(t, s, places, impl.ErrInvalid)
			for _, rows := range [][]int64{nil, {}, {0}, {1, 0, 0}, {-1}, {5000}, make([]int64, impl.MaxRows+1)} {
				failRows(t, s, rows, places, impl.ErrInvalid)
				fails(t, "StrengthOf", number(impl.StrengthOf(s, rows)), impl.ErrInvalid)
			}
		}
		for _, row := range append(noWords(2), 0, 1) {
			for _, choice := range [][]int64{nil, {0}, {0, 0}, {0, 1, 1, 1}, {0, 0, 0}, {-1, 0}, {0, -1}, {9, 9}, make([]int64, 8), make([]int64, 5000)} {
				fails(t, "HasChoice", yesOrNo(impl.HasChoice(s, row, choice)), impl.ErrInvalid)
			}
		}
	}
}

func TestChoicesOfNoPlaces(t *testing.T) {
	for _, s := range append(smallSpaces(t), largeSpaces(t)...) {
		n, _ := impl.CountWords(s)
		for _, places := range noStrengths(s) {
			failPlaces(t, s, places, impl.ErrRange)
			for _, rows := range append(noRows(n), nil, []int64{0}, []int64{n - 1, 0, 0}, make([]int64, impl.MaxRows)) {
				failRows(t, s, rows, places, impl.ErrRange)
			}
		}
	}
}

func TestArraysOfNoRows(t *testing.T) {
	for _, s := range append(smallSpaces(t), largeSpaces(t)...) {
		n, _ := impl.CountWords(s)
		for _, rows := range noRows(n) {
			fails(t, "StrengthOf", number(impl.StrengthOf(s, rows)), impl.ErrRange)
			for places := int64(1); places <= impl.MaxStrength && places <= int64(len(s.Sizes)); places++ {
				failRows(t, s, rows, places, impl.ErrRange)
			}
		}
	}
}

// MaxRows rows are not too many, and one more is, also where all of them are the same.
func TestAsManyRowsAsThereMayBe(t *testing.T) {
	if impl.MaxRows != 200 || impl.MaxStrength != 3 {
		t.Errorf("MaxRows = %d, MaxStrength = %d", impl.MaxRows, impl.MaxStrength)
	}
	for _, s := range append(smallSpaces(t), largeSpaces(t)...) {
		n, _ := impl.CountWords(s)
		for _, w := range []int64{0, n - 1} {
			rows := slices.Repeat([]int64{w}, impl.MaxRows)
			lean, err := impl.LeanRows(s, rows, 1)
			checkCode(t, "LeanRows", lean, err, []int64{w})
			if strength, err := impl.StrengthOf(s, rows); strength != 0 || err != impl.ErrNone {
				t.Errorf("StrengthOf(%v, %d rows) = %d, %d", s, len(rows), strength, err)
			}
			failRows(t, s, append(rows, w), 1, impl.ErrRange)
			fails(t, "StrengthOf", number(impl.StrengthOf(s, append(rows, w))), impl.ErrRange)
		}
	}
}

// No rows are rows: all choices are missing in them.
func TestArraysWithoutRows(t *testing.T) {
	for _, c := range arrayCases(t) {
		for _, rows := range [][]int64{nil, {}} {
			fails(t, "StrengthOf", number(impl.StrengthOf(c.space, rows)), impl.ErrNone)
			for k, choices := range c.choices {
				fails(t, "LeanRows", list(impl.LeanRows(c.space, rows, int64(k+1))), impl.ErrNone)
				fails(t, "NewChoices", list(impl.NewChoices(c.space, rows, int64(k+1))), impl.ErrNone)
				missing, err := impl.MissingChoices(c.space, rows, int64(k+1))
				if !areEqualLists(missing, choices) || err != impl.ErrNone {
					t.Errorf("MissingChoices(%v, none, %d) = %v, %d", c.space, k+1, missing, err)
				}
			}
		}
	}
}

func TestNoChoices(t *testing.T) {
	for _, s := range append(spacesUpTo(t, 16), largeSpaces(t)...) {
		n, _ := impl.CountWords(s)
		for _, choice := range noChoices(s) {
			for _, row := range []int64{0, n - 1, n, -1} {
				fails(t, "HasChoice", yesOrNo(impl.HasChoice(s, row, choice)), impl.ErrRange)
			}
		}
		for _, row := range noWords(n) {
			for _, choice := range [][]int64{{0, 0}, {0, 1}, {int64(len(s.Sizes)) - 1, 0}} {
				fails(t, "HasChoice", yesOrNo(impl.HasChoice(s, row, choice)), impl.ErrRange)
			}
		}
	}
}

// Of all short lists of small numbers, those are no errors that are choices.
func TestListsThatAreChoices(t *testing.T) {
	for _, s := range []impl.Space{space(t, 2), space(t, 4), space(t, 2, 3), space(t, 3, 2), space(t, 2, 2, 2)} {
		choices := slices.Concat(newArrayCase(s).choices...)
		found := 0
		for _, list := range listsUpTo(4, 6) {
			yes, err := impl.HasChoice(s, 0, list)
			if !slices.ContainsFunc(choices, func(choice []int64) bool { return slices.Equal(choice, list) }) {
				fails(t, "HasChoice", yesOrNo(yes, err), impl.ErrRange)
				continue
			}
			found++
			if want := isZero(list[len(list)/2:]); yes != want || err != impl.ErrNone {
				t.Errorf("HasChoice(%v, 0, %v) = %v, %d", s, list, yes, err)
			}
		}
		if found != len(choices) {
			t.Errorf("%v: %d choices instead of %d", s, found, len(choices))
		}
	}
}

func TestPairsOfNoPlaces(t *testing.T) {
	for _, n := range []int64{0, -1, -8, impl.MaxPlaces + 1, 10, 11, 64, 1 << 32, math.MinInt64, math.MaxInt64} {
		fails(t, "PairNumber", number(impl.PairNumber(n)), impl.ErrRange)
		fails(t, "PairRows", built(impl.PairRows(n)), impl.ErrRange)
	}
}

func TestArraysLeaveArgumentsAsTheyAre(t *testing.T) {
	sizes, words, told := []int64{4, 2, 3}, []int64{7, 0, 23, 7, 11}, []int64{0, 2, 3, 1}
	s := impl.Space{Sizes: withSpare(sizes)}
	rows, choice := withSpare(words), withSpare(told)
	impl.HasChoice(s, 5, choice)
	impl.StrengthOf(s, rows)
	for places := range int64(impl.MaxStrength + 1) {
		impl.CountChoices(s, places)
		impl.MissingChoices(s, rows, places)
		impl.CountMissing(s, rows, places)
		impl.ChoiceBound(s, places)
		impl.GreedyRows(s, places)
		impl.LeanRows(s, rows, places)
		impl.NewChoices(s, rows, places)
	}
	if !isUntouched(s.Sizes, sizes) || !isUntouched(rows, words) || !isUntouched(choice, told) {
		t.Errorf("arguments are changed: %v, %v, %v", s, rows, choice)
	}
}

func TestArraysAreNewMemory(t *testing.T) {
	s, rows := space(t, 3, 2, 4), []int64{22, 1, 5, 9}
	calls := map[string]func() []int64{
		"MissingChoices":        func() []int64 { x, _ := impl.MissingChoices(s, rows, 2); return x[0] },
		"GreedyRows":            func() []int64 { x, _ := impl.GreedyRows(s, 2); return x },
		"LeanRows":              func() []int64 { x, _ := impl.LeanRows(s, rows, 3); return x },
		"NewChoices":            func() []int64 { x, _ := impl.NewChoices(s, rows, 2); return x },
		"PairRows":              func() []int64 { _, x, _ := impl.PairRows(8); return x },
		"PairRows of one place": func() []int64 { _, x, _ := impl.PairRows(1); return x },
		"the space of PairRows": func() []int64 { x, _, _ := impl.PairRows(5); return x.Sizes },
	}
	for name, call := range calls {
		checkNewMemory(t, name, func() []int64 {
			x := call()
			fill(x[len(x):])
			return x
		})
		if !slices.Equal(s.Sizes, []int64{3, 2, 4}) || !slices.Equal(rows, []int64{22, 1, 5, 9}) {
			t.Errorf("%s gives out its arguments", name)
		}
	}
}

// The missing choices of one result share no memory, also not behind their ends.
func TestMissingChoicesShareNoMemory(t *testing.T) {
	s := space(t, 3, 2, 4)
	want, _ := impl.MissingChoices(s, []int64{0, 23}, 2)
	for k := range want {
		missing, _ := impl.MissingChoices(s, []int64{0, 23}, 2)
		fill(missing[k])
		missing[k] = want[k]
		if !areEqualLists(missing, want) {
			t.Errorf("the choice %d shares memory with others: %v", k, missing)
		}
	}
}

// The sizes and the rows of one result share no memory.
func TestPairRowsShareNoMemory(t *testing.T) {
	for n := int64(1); n <= impl.MaxPlaces; n++ {
		s, rows, _ := impl.PairRows(n)
		fill(rows)
		if !slices.Equal(s.Sizes, slices.Repeat([]int64{2}, int(n))) {
			t.Errorf("PairRows(%d): the sizes share memory with the rows", n)
		}
	}
}

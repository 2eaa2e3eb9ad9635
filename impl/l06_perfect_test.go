package impl

import (
	"slices"
	"testing"
)

// Columns are values: one that is put into a sum stays as it is.
func TestColumnsAreValues(t *testing.T) {
	columns, err := columnsFor(3, 2, 1)
	want := []column{{0, 0, 1}, {0, 1, 0}, {0, 1, 1}, {0, 1, 2}}
	if !slices.Equal(columns, want) || err != ErrNone {
		t.Errorf("columns %v, %d", columns, err)
	}
	if sum := sumOfColumns(3, columns, []int64{0, 2, 1, 2}); sum != (column{0, 2, 2}) {
		t.Errorf("sum %v", sum)
	}
	if !slices.Equal(columns, want) {
		t.Errorf("columns %v are changed", columns)
	}
}

// The search hands out each perfect code once, with its words in their order.
func TestPerfectCodesComeOnce(t *testing.T) {
	for _, c := range []struct {
		sizes []int64
		r     int64
		count int
	}{
		{[]int64{2}, 1, 2}, {[]int64{2, 2, 2}, 1, 4}, {[]int64{2, 2, 2}, 2, 0}, {[]int64{2, 2, 2, 2, 2}, 2, 16}, {[]int64{2, 4, 2, 2, 2}, 1, 48},
	} {
		s := Space{Sizes: c.sizes}
		codes := perfectCodes(s, c.r)
		for _, code := range codes {
			if codeError(s, code) != ErrNone || !isPerfect(s, code, c.r) {
				t.Errorf("%v is no perfect code of %v", code, s)
			}
		}
		slices.SortFunc(codes, slices.Compare)
		if once := slices.CompactFunc(codes, slices.Equal); len(once) != c.count {
			t.Errorf("%v has %d perfect codes for %d", s, len(once), c.r)
		}
	}
}

// Shifts by which a code has a word are all of those, ascending.
func TestShiftsToWords(t *testing.T) {
	s := Space{Sizes: []int64{3, 4}}
	code := []int64{0, 5, 6, 11}
	for w := range wordCount(s) {
		want := slices.DeleteFunc(allWords(s), func(v int64) bool { return shiftedSet(s, code, v).lacks(w) })
		if shifts := shiftsTo(s, code, w); !slices.Equal(shifts, want) {
			t.Errorf("shifts to %d: %v instead of %v", w, shifts, want)
		}
	}
}

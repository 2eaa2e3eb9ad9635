package impl

import (
	"slices"
	"testing"
)

// A place that is fit is some place, the first one too, and a place that is not is none.
func TestFitPlacesAreSome(t *testing.T) {
	for _, c := range []struct {
		sizes, code []int64
		radius      int64
		want        []placeNorm
	}{
		{[]int64{2, 2, 2}, []int64{0, 7}, 1, []placeNorm{{0, 3}, {1, 3}, {2, 3}}},
		{[]int64{2, 2, 2}, []int64{0, 1}, 2, []placeNorm{{}, {}, {2, 5}}},
		{[]int64{3, 3, 3}, []int64{0, 4, 10, 12, 26}, 1, []placeNorm{{}, {}, {}}},
		{[]int64{2}, []int64{0, 1}, 0, []placeNorm{{0, 1}}},
	} {
		s := Space{Sizes: c.sizes}
		for i, want := range c.want {
			if looked := fitOrNone(s, c.code, int64(i), c.radius); looked != want {
				t.Errorf("the place %d of %v, %v: %v instead of %v", i, s, c.code, looked, want)
			}
		}
	}
}

// No norm is 0, as the zero value of a place with its norm is none.
func TestNormsAreNotZero(t *testing.T) {
	for _, sizes := range [][]int64{{2}, {3}, {4}, {2, 3}, {2, 2, 2}} {
		s := Space{Sizes: sizes}
		for i := range sizes {
			if norm := normAt(s, allWords(s), int64(i)); norm != sizes[i]-1 {
				t.Errorf("the place %d of all words of %v has the norm %d", i, s, norm)
			}
		}
	}
}

// No goroutine stays behind a call, whether it has a result or an error.
func TestPlacesLeaveNoGoroutine(t *testing.T) {
	s := Space{Sizes: []int64{2, 3, 2, 2, 2}}
	checkNoGoroutineStays(t, func() {
		for _, code := range [][]int64{{0, 5, 40}, allWords(s), nil, {5, 0}} {
			FitPlaces(s, code)
			IsNormal(s, code)
		}
	})
}

// A sum is at the number of the word whose digits tell how often each column is taken.
func TestSumsAreAtTheirWords(t *testing.T) {
	x := Space{Sizes: []int64{3, 3}}
	columns := []int64{3, 1, 5, 5}
	s := plainSpaceOf(3, 4)
	sums := sumsByDigits(x, columns)
	for w, digits := range digitParts(s, allWords(s)...) {
		want := int64(0)
		for i, d := range digits {
			for range d {
				want = sumOfWords(x, want, columns[i])
			}
		}
		if sums[w] != want {
			t.Errorf("the sum for %v is %d instead of %d", digits, sums[w], want)
		}
	}
	if sums := sumsByDigits(x, nil); !slices.Equal(sums, []int64{0}) {
		t.Errorf("the sums of no columns are %v", sums)
	}
}

// Steps are the multiples of each column but those that lead nowhere, as those of the column 0.
func TestStepsOfColumns(t *testing.T) {
	for _, c := range []struct {
		sizes, columns, want []int64
	}{
		{[]int64{3, 3}, []int64{3, 0, 5}, []int64{3, 6, 5, 7}},
		{[]int64{2, 2}, []int64{2, 0, 3, 3}, []int64{2, 3, 3}},
		{[]int64{2}, nil, nil},
	} {
		if steps := stepsOf(Space{Sizes: c.sizes}, c.columns); !slices.Equal(steps, c.want) {
			t.Errorf("the steps of %v of %v are %v", c.columns, c.sizes, steps)
		}
	}
}

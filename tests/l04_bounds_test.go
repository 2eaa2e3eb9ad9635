package tests

import (
	"slices"
	"testing"

	"loop.example/g01411/impl"
)

// productOf multiplies sizes.
func productOf(sizes []int64) int64 {
	n := int64(1)
	for _, q := range sizes {
		n *= q
	}
	return n
}

// withoutGreatest leaves out the k greatest sizes, or all of them.
func withoutGreatest(sizes []int64, k int64) []int64 {
	left := slices.Clone(sizes)
	for range min(k, int64(len(sizes))) {
		i := slices.Index(left, slices.Max(left))
		left = slices.Delete(left, i, i+1)
	}
	return left
}

// ballByTable counts the words within r of the word 0.
func ballByTable(table [][]int64, r int64) int64 {
	n := int64(0)
	for _, d := range table[0] {
		if d <= r {
			n++
		}
	}
	return n
}

// The ball bound is the least number of balls that have together as many words as the space.
func TestBallBounds(t *testing.T) {
	for _, s := range append(smallSpaces(t), largeSpaces(t)...) {
		table := distanceTable(s)
		for r := range int64(impl.MaxPlaces + 1) {
			want, n := int64(0), int64(len(table))
			for want*ballByTable(table, r) < n {
				want++
			}
			if bound, err := impl.BallBound(s, r); bound != want || err != impl.ErrNone {
				t.Errorf("BallBound(%v, %d) = %d, %d instead of %d", s, r, bound, err, want)
			}
		}
	}
}

// The packing bound is the greatest number of balls that have together no more words than the space.
func TestPackingBounds(t *testing.T) {
	for _, s := range append(smallSpaces(t), largeSpaces(t)...) {
		table := distanceTable(s)
		for d := int64(1); d <= impl.MaxPlaces+1; d++ {
			// Twice this radius is at most d - 1.
			radius := int64(0)
			for 2*radius+2 <= d-1 {
				radius++
			}
			want, n := int64(0), int64(len(table))
			for (want+1)*ballByTable(table, radius) <= n {
				want++
			}
			if bound, err := impl.PackingBound(s, d); bound != want || err != impl.ErrNone {
				t.Errorf("PackingBound(%v, %d) = %d, %d instead of %d", s, d, bound, err, want)
			}
		}
	}
}

func TestFreeBoundsAndPlaceBounds(t *testing.T) {
	for _, s := range append(smallSpaces(t), largeSpaces(t)...) {
		for r := range int64(impl.MaxPlaces + 1) {
			want := productOf(withoutGreatest(s.Sizes, r))
			if bound, err := impl.FreeBound(s, r); bound != want || err != impl.ErrNone {
				t.Errorf("FreeBound(%v, %d) = %d, %d instead of %d", s, r, bound, err, want)
			}
			if bound, err := impl.PlaceBound(s, r+1); bound != want || err != impl.ErrNone {
				t.Errorf("PlaceBound(%v, %d) = %d, %d instead of %d", s, r+1, bound, err, want)
			}
		}
	}
}

func TestBoundsWrittenOut(t *testing.T) {
	for _, c := range []struct {
		sizes                      []int64
		r                          int64
		ball, free, packing, place int64 // the two last ones for r + 1
	}{
		{[]int64{2}, 0, 2, 2, 2, 2}, {[]int64{2}, 1, 1, 1, 2, 1}, {[]int64{2}, 2, 1, 1, 1, 1}, {[]int64{4}, 8, 1, 1, 1, 1},
		{[]int64{4}, 0, 4, 4, 4, 4}, {[]int64{4}, 1, 1, 1, 4, 1}, {[]int64{3, 3}, 1, 2, 3, 9, 3}, {[]int64{3, 3}, 2, 1, 1, 1, 1},
		{[]int64{2, 3, 4}, 0, 24, 24, 24, 24}, {[]int64{2, 3, 4}, 1, 4, 6, 24, 6}, {[]int64{2, 3, 4}, 2, 2, 2, 3, 2},
		{[]int64{4, 3, 2}, 3, 1, 1, 3, 1}, {[]int64{4, 3, 2}, 4, 1, 1, 1, 1},
		{[]int64{3, 3, 3}, 1, 4, 9, 27, 9}, {[]int64{3, 3, 3}, 2, 2, 3, 3, 3},
		{[]int64{2, 2, 2, 2, 2, 2, 2}, 1, 16, 64, 128, 64}, {[]int64{2, 2, 2, 2, 2, 2, 2}, 2, 5, 32, 16, 32},
		{[]int64{2, 2, 2, 2, 2, 2, 2, 2}, 0, 256, 256, 256, 256}, {[]int64{2, 2, 2, 2, 2, 2, 2, 2}, 1, 29, 128, 256, 128},
		{[]int64{2, 2, 2, 2, 2, 2, 2, 2}, 2, 7, 64, 28, 64}, {[]int64{2, 2, 2, 2, 2, 2, 2, 2}, 3, 3, 32, 28, 32},
		{[]int64{2, 2, 2, 2, 2, 2, 2, 2}, 7, 2, 2, 2, 2}, {[]int64{2, 2, 2, 2, 2, 2, 2, 2}, 8, 1, 1, 1, 1},
		{[]int64{4, 4, 4, 4, 4}, 1, 64, 256, 1024, 256}, {[]int64{4, 4, 4, 4, 4}, 2, 10, 64, 64, 64},
		{[]int64{4, 4, 4, 4, 4}, 4, 2, 4, 9, 4}, {[]int64{4, 2, 2, 2, 2, 2, 2, 4}, 8, 1, 1, 2, 1},
	} {
		s := space(t, c.sizes...)
		ball, _ := impl.BallBound(s, c.r)
		free, _ := impl.FreeBound(s, c.r)
		packing, _ := impl.PackingBound(s, c.r+1)
		place, _ := impl.PlaceBound(s, c.r+1)
		if ball != c.ball || free != c.free || packing != c.packing || place != c.place {
			t.Errorf("%v, %d: ball bound %d, free bound %d, packing bound %d, place bound %d", s, c.r, ball, free, packing, place)
		}
	}
}

// placeLists are all ascending lists of places of a space.
func placeLists(s impl.Space) [][]int64 {
	return allCodes(int64(len(s.Sizes)))
}

func TestFreeCodes(t *testing.T) {
	for _, s := range append(smallSpaces(t), largeSpaces(t)...) {
		lists := digitLists(s.Sizes)
		for _, places := range placeLists(s) {
			want := []int64{}
			for w, digits := range lists {
				if !slices.ContainsFunc(places, func(i int64) bool { return digits[i] > 0 }) {
					want = append(want, int64(w))
				}
			}
			code, err := impl.FreeCode(s, places)
			checkCode(t, "FreeCode", code, err, want)
			// A word reaches its neighbour in the code by changes at these places alone.
			if covers, err := impl.CoversSpace(s, code, int64(len(places))); !covers || err != impl.ErrNone {
				t.Errorf("FreeCode(%v, %v) = %v does not cover, %d", s, places, code, err)
			}
		}
	}
}

func TestFreeCodesOfNoPlacesAndOfAll(t *testing.T) {
	for _, s := range append(smallSpaces(t), largeSpaces(t)...) {
		n, _ := impl.CountWords(s)
		for _, places := range [][]int64{nil, {}} {
			code, err := impl.FreeCode(s, places)
			checkCode(t, "FreeCode of no places", code, err, upTo(n))
		}
		code, err := impl.FreeCode(s, upTo(int64(len(s.Sizes))))
		checkCode(t, "FreeCode of all places", code, err, []int64{0})
	}
}

// Of the places whose sizes are the greatest ones, the free code has as many words as the free
// bound; of as many other ones it has no less.
func TestFreeCodesHaveTheFreeBound(t *testing.T) {
	for _, s := range append(smallSpaces(t), largeSpaces(t)...) {
		least := slices.Repeat([]int64{impl.MaxWords + 1}, len(s.Sizes)+1)
		for _, places := range placeLists(s) {
			code, _ := impl.FreeCode(s, places)
			r := len(places)
			least[r] = min(least[r], int64(len(code)))
		}
		for r, want := range least {
			if bound, err := impl.FreeBound(s, int64(r)); bound != want || err != impl.ErrNone {
				t.Errorf("FreeBound(%v, %d) = %d, %d, but a free code has %d words", s, r, bound, err, want)
			}
		}
	}
}

package tests

import (
	"slices"
	"testing"

	"loop.example/g01411/impl"
)

// isApart holds all pairs of words of the code against d.
func (c coverCase) isApart(d int64) bool {
	for k, u := range c.code {
		for _, w := range c.code[:k] {
			if c.table[u][w] < d {
				return false
			}
		}
	}
	return true
}

// canGrow looks for a word outside that is far enough from all words of the code.
func (c coverCase) canGrow(d int64) bool {
	for w := range c.table {
		isNear := func(u int64) bool { return c.table[u][w] < d }
		if !slices.Contains(c.code, int64(w)) && !slices.ContainsFunc(c.code, isNear) {
			return true
		}
	}
	return false
}

// Codes apart by d that cannot grow cover within d - 1.
func TestCodesApart(t *testing.T) {
	full := 0
	for _, c := range coverCases(t) {
		for d := int64(1); d <= impl.MaxPlaces+1; d++ {
			areApart, err := impl.AreApart(c.space, c.code, d)
			if areApart != c.isApart(d) || err != impl.ErrNone {
				t.Errorf("AreApart(%v, %v, %d) = %v, %d", c.space, c.code, d, areApart, err)
			}
			canGrow, err := impl.CanGrow(c.space, c.code, d)
			if canGrow != c.canGrow(d) || err != impl.ErrNone {
				t.Errorf("CanGrow(%v, %v, %d) = %v, %d", c.space, c.code, d, canGrow, err)
			}
			covers, err := impl.CoversSpace(c.space, c.code, d-1)
			if areApart && !canGrow && (!covers || err != impl.ErrNone) {
				t.Errorf("%v in %v is apart by %d and cannot grow, but does not cover, %d", c.code, c.space, d, err)
			}
			if areApart && !canGrow && len(c.code) > 1 && d > 1 {
				full++
			}
		}
	}
	if full == 0 {
		t.Errorf("no code of some words here is apart and cannot grow")
	}
}

// grown takes words that are far enough from those taken before, in an order that comes by steps.
func grown(table [][]int64, d int64, start int, step int) []int64 {
	code := []int64{}
	for k := range table {
		w := (start + k*step) % len(table)
		if !slices.ContainsFunc(code, func(u int64) bool { return table[u][w] < d }) {
			code = append(code, int64(w))
		}
	}
	slices.Sort(code)
	return code
}

// Codes that have grown as long as they can, in several orders, cover within d - 1; without any of
// their words they can grow.
func TestGrownCodes(t *testing.T) {
	for _, s := range append(smallSpaces(t), largeSpaces(t)...) {
		table := distanceTable(s)
		for d := int64(2); d <= int64(len(s.Sizes))+1; d++ {
			// These steps have no divisor in common with any number of words but 1.
			for _, step := range []int{1, 5, 7, 11, 13, 1019} {
				code := grown(table, d, len(table)/3, step)
				areApart, _ := impl.AreApart(s, code, d)
				canGrow, _ := impl.CanGrow(s, code, d)
				covers, _ := impl.CoversSpace(s, code, d-1)
				if !areApart || canGrow || !covers {
					t.Errorf("%v in %v: apart by %d %v, can grow %v, covers %v", code, s, d, areApart, canGrow, covers)
				}
				k := len(code) / 2
				if more, err := impl.CanGrow(s, without(code, k), d); !more || err != impl.ErrNone {
					t.Errorf("CanGrow(%v, %v without %d, %d) = %v, %d", s, code, code[k], d, more, err)
				}
			}
		}
	}
}

func TestCodesOfFewWordsAreApart(t *testing.T) {
	for _, s := range append(smallSpaces(t), largeSpaces(t)...) {
		n, _ := impl.CountWords(s)
		for d := int64(1); d <= impl.MaxPlaces+1; d++ {
			for _, code := range [][]int64{nil, {}, {0}, {1}, {n / 2}, {n - 1}} {
				if areApart, err := impl.AreApart(s, code, d); !areApart || err != impl.ErrNone {
					t.Errorf("AreApart(%v, %v, %d) = %v, %d", s, code, d, areApart, err)
				}
				// One word reaches all others if d is beyond the number of places.
				want := len(code) == 0 || d <= int64(len(s.Sizes))
				if canGrow, err := impl.CanGrow(s, code, d); canGrow != want || err != impl.ErrNone {
					t.Errorf("CanGrow(%v, %v, %d) = %v, %d", s, code, d, canGrow, err)
				}
			}
			// All words are apart by 1, and none is left.
			if areApart, err := impl.AreApart(s, upTo(n), d); areApart != (d == 1) || err != impl.ErrNone {
				t.Errorf("AreApart(%v, all words, %d) = %v, %d", s, d, areApart, err)
			}
			if canGrow, err := impl.CanGrow(s, upTo(n), d); canGrow || err != impl.ErrNone {
				t.Errorf("CanGrow(%v, all words, %d) = %v, %d", s, d, canGrow, err)
			}
		}
	}
}

func TestApartWrittenOut(t *testing.T) {
	for _, c := range []struct {
		sizes, code       []int64
		d                 int64
		areApart, canGrow bool
	}{
		{[]int64{2, 2, 2}, []int64{0, 3, 5}, 2, true, true}, {[]int64{2, 2, 2}, []int64{0, 3, 5, 6}, 2, true, false},
		{[]int64{2, 2, 2}, []int64{0, 3, 5}, 3, false, false}, {[]int64{2, 2, 2}, []int64{0, 7}, 3, true, false},
		{[]int64{2, 2, 2}, []int64{0, 7}, 4, false, false}, {[]int64{2, 2, 2}, []int64{0}, 3, true, true},
		// A code need not be apart to grow, or to be full.
		{[]int64{2, 2, 2}, []int64{0, 1}, 2, false, true}, {[]int64{2, 2, 2}, []int64{0, 1, 6}, 2, false, false},
		{[]int64{4}, []int64{0, 3}, 1, true, true}, {[]int64{4}, []int64{0, 3}, 2, false, false},
		{[]int64{2, 2, 2, 2, 2, 2, 2, 2}, []int64{0, 255}, 8, true, false},
		{[]int64{2, 2, 2, 2, 2, 2, 2, 2}, []int64{0, 255}, 9, false, false},
		{[]int64{2, 2, 2, 2, 2, 2, 2, 2}, []int64{0}, 8, true, true}, {[]int64{2, 2, 2, 2, 2, 2, 2, 2}, []int64{0}, 9, true, false},
		{[]int64{4, 4, 4, 4, 4}, []int64{0, 341, 682}, 5, true, true}, {[]int64{4, 4, 4, 4, 4}, []int64{0, 341, 682, 1023}, 5, true, false},
		{[]int64{4, 4, 4, 4, 4}, []int64{0, 341, 682, 1023}, 6, false, false},
	} {
		s := space(t, c.sizes...)
		if areApart, err := impl.AreApart(s, c.code, c.d); areApart != c.areApart || err != impl.ErrNone {
			t.Errorf("AreApart(%v, %v, %d) = %v, %d", s, c.code, c.d, areApart, err)
		}
		if canGrow, err := impl.CanGrow(s, c.code, c.d); canGrow != c.canGrow || err != impl.ErrNone {
			t.Errorf("CanGrow(%v, %v, %d) = %v, %d", s, c.code, c.d, canGrow, err)
		}
	}
}

// greedyApartByHand takes each word that is far enough from those taken before.
func greedyApartByHand(table [][]int64, d int64) []int64 {
	code := []int64{}
	for w := range table {
		if !slices.ContainsFunc(code, func(u int64) bool { return table[u][w] < d }) {
			code = append(code, int64(w))
		}
	}
	return code
}

// Greedy codes are apart, within both bounds, and cannot grow, so that they cover within d - 1.
func TestGreedyCodesApart(t *testing.T) {
	for _, s := range append(smallSpaces(t), largeSpaces(t)...) {
		table := distanceTable(s)
		for d := int64(1); d <= impl.MaxPlaces+1; d++ {
			code, err := impl.GreedyApart(s, d)
			checkCode(t, "GreedyApart", code, err, greedyApartByHand(table, d))
			areApart, _ := impl.AreApart(s, code, d)
			canGrow, _ := impl.CanGrow(s, code, d)
			covers, _ := impl.CoversSpace(s, code, d-1)
			if !areApart || canGrow || !covers {
				t.Errorf("GreedyApart(%v, %d) = %v: apart %v, can grow %v, covers %v", s, d, code, areApart, canGrow, covers)
			}
			packing, _ := impl.PackingBound(s, d)
			place, _ := impl.PlaceBound(s, d)
			if words := int64(len(code)); words > packing || words > place {
				t.Errorf("GreedyApart(%v, %d) has %d words, but the bounds are %d and %d", s, d, words, packing, place)
			}
		}
	}
}

func TestGreedyCodesApartWrittenOut(t *testing.T) {
	for _, c := range []struct {
		sizes []int64
		d     int64
		want  []int64
	}{
		{[]int64{2}, 1, []int64{0, 1}}, {[]int64{2}, 2, []int64{0}}, {[]int64{4}, 9, []int64{0}},
		{[]int64{2, 2, 2}, 1, upTo(8)}, {[]int64{2, 2, 2}, 2, []int64{0, 3, 5, 6}}, {[]int64{2, 2, 2}, 3, []int64{0, 7}},
		{[]int64{2, 2, 2}, 4, []int64{0}}, {[]int64{3, 3}, 2, []int64{0, 4, 8}}, {[]int64{3, 3}, 3, []int64{0}},
		{[]int64{2, 2, 2, 2, 2, 2, 2}, 3, []int64{0, 7, 25, 30, 42, 45, 51, 52, 75, 76, 82, 85, 97, 102, 120, 127}},
		{[]int64{2, 2, 2, 2, 2, 2, 2, 2}, 8, []int64{0, 255}}, {[]int64{2, 2, 2, 2, 2, 2, 2, 2}, 9, []int64{0}},
		{[]int64{4, 4, 4, 4, 4}, 1, upTo(1024)}, {[]int64{4, 4, 4, 4, 4}, 5, []int64{0, 341, 682, 1023}},
	} {
		code, err := impl.GreedyApart(space(t, c.sizes...), c.d)
		checkCode(t, "GreedyApart", code, err, c.want)
	}
}

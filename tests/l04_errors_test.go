package tests

import (
	"slices"
	"testing"

	"loop.example/g01411/impl"
)

// failBounds expects an error of all functions of chapter 4 that take a space and a radius.
func failBounds(t *testing.T, s impl.Space, r int64, want int64) {
	t.Helper()
	fails(t, "BallBound", number(impl.BallBound(s, r)), want)
	fails(t, "FreeBound", number(impl.FreeBound(s, r)), want)
}

// failCovers expects an error of the functions that seek codes for a radius.
func failCovers(t *testing.T, s impl.Space, r int64, want int64) {
	t.Helper()
	fails(t, "LeastNumber", number(impl.LeastNumber(s, r)), want)
	fails(t, "FirstCover", list(impl.FirstCover(s, r)), want)
}

// failApart expects an error of all functions that take a distance to be apart by.
func failApart(t *testing.T, s impl.Space, code []int64, d int64, want int64) {
	t.Helper()
	fails(t, "AreApart", yesOrNo(impl.AreApart(s, code, d)), want)
	fails(t, "CanGrow", yesOrNo(impl.CanGrow(s, code, d)), want)
	if len(code) == 0 {
		fails(t, "PackingBound", number(impl.PackingBound(s, d)), want)
		fails(t, "PlaceBound", number(impl.PlaceBound(s, d)), want)
		fails(t, "GreedyApart", list(impl.GreedyApart(s, d)), want)
	}
}

// failGreatest expects an error of the functions that seek codes for a distance.
func failGreatest(t *testing.T, s impl.Space, d int64, want int64) {
	t.Helper()
	fails(t, "GreatestNumber", number(impl.GreatestNumber(s, d)), want)
	fails(t, "FirstApart", list(impl.FirstApart(s, d)), want)
}

// noDistances are no distances to be apart by.
func noDistances() []int64 {
	return append(noWords(impl.MaxPlaces+2), 0, -64, 64)
}

func TestBoundsOfNoSpace(t *testing.T) {
	// Beside something that is no space, no other argument counts, also one that is wrong itself.
	for _, s := range noSpaces() {
		for _, x := range append(noDistances(), 1, 2, impl.MaxPlaces, impl.MaxPlaces+1) {
			failBounds(t, s, x, impl.ErrInvalid)
			failCovers(t, s, x, impl.ErrInvalid)
			failGreatest(t, s, x, impl.ErrInvalid)
			for _, code := range [][]int64{nil, {0}, {0, 1}, {1, 0}, {-1}, {5000}, {0, 0}} {
				failApart(t, s, code, x, impl.ErrInvalid)
			}
		}
		for _, places := range [][]int64{nil, {0}, {0, 1}, {1, 0}, {-1}, {70}, {0, 0}} {
			fails(t, "FreeCode", list(impl.FreeCode(s, places)), impl.ErrInvalid)
		}
	}
}

func TestBoundsOfNoRadius(t *testing.T) {
	// In the large spaces nothing is sought, but ErrRange comes before ErrLimit.
	for _, s := range append(smallSpaces(t), largeSpaces(t)...) {
		for _, r := range noRadii() {
			failBounds(t, s, r, impl.ErrRange)
			failCovers(t, s, r, impl.ErrRange)
		}
		failCovers(t, s, 0, impl.ErrRange)
	}
}

func TestBoundsOfNoDistance(t *testing.T) {
	for _, s := range append(smallSpaces(t), largeSpaces(t)...) {
		n, _ := impl.CountWords(s)
		for _, d := range noDistances() {
			for _, code := range append(noCodes(n), nil, []int64{0}, []int64{0, n - 1}, upTo(n)) {
				failApart(t, s, code, d, impl.ErrRange)
			}
			failGreatest(t, s, d, impl.ErrRange)
		}
		failGreatest(t, s, 1, impl.ErrRange)
	}
}

func TestBoundsOfNoCode(t *testing.T) {
	for _, s := range append(smallSpaces(t), largeSpaces(t)...) {
		n, _ := impl.CountWords(s)
		for _, code := range noCodes(n) {
			for _, d := range []int64{1, 2, impl.MaxPlaces + 1} {
				failApart(t, s, code, d, impl.ErrRange)
			}
		}
	}
}

func TestFreeCodesOfOtherLists(t *testing.T) {
	for _, s := range append(smallSpaces(t), largeSpaces(t)...) {
		n := int64(len(s.Sizes))
		lists := [][]int64{upTo(n + 1), {0, 0}, {n - 1, n - 1}, slices.Repeat([]int64{0}, 70), upTo(70)}
		for _, i := range append(noWords(n), impl.MaxPlaces, 64) {
			lists = append(lists, []int64{i}, []int64{0, i}, []int64{i, n - 1}, []int64{n - 1, i})
		}
		if n > 1 {
			lists = append(lists, []int64{1, 0}, []int64{n - 1, 0}, []int64{0, 1, 1}, append(upTo(n), 0))
		}
		for _, places := range lists {
			fails(t, "FreeCode", list(impl.FreeCode(s, places)), impl.ErrRange)
		}
	}
}

func TestSoughtBeyondTheLimit(t *testing.T) {
	if impl.MaxSought != 27 {
		t.Errorf("MaxSought = %d", impl.MaxSought)
	}
	// No product of sizes is from 28 to 31.
	beyond := []impl.Space{space(t, 2, 2, 2, 2, 2), space(t, 4, 4, 2), space(t, 2, 4, 4), space(t, 3, 4, 3), space(t, 2, 2, 3, 3)}
	for _, s := range append(beyond, largeSpaces(t)...) {
		for r := int64(1); r <= impl.MaxPlaces; r++ {
			failCovers(t, s, r, impl.ErrLimit)
			failGreatest(t, s, r+1, impl.ErrLimit)
		}
		failCovers(t, s, 0, impl.ErrRange)
		failCovers(t, s, impl.MaxPlaces+1, impl.ErrRange)
		failGreatest(t, s, 1, impl.ErrRange)
		failGreatest(t, s, impl.MaxPlaces+2, impl.ErrRange)
	}
	s := space(t, 3, 3, 3)
	least, err := impl.LeastNumber(s, 1)
	greatest, other := impl.GreatestNumber(s, 2)
	if least != 5 || err != impl.ErrNone || greatest != 9 || other != impl.ErrNone {
		t.Errorf("MaxSought words: %d, %d and %d, %d", least, err, greatest, other)
	}
}

func TestBoundsLeaveArgumentsAsTheyAre(t *testing.T) {
	sizes, words, list := []int64{4, 2, 3}, []int64{1, 5, 9, 10, 22}, []int64{0, 2}
	s := impl.Space{Sizes: withSpare(sizes)}
	code, places := withSpare(words), withSpare(list)
	for x := range int64(impl.MaxPlaces + 2) {
		impl.BallBound(s, x)
		impl.FreeCode(s, places)
		impl.FreeBound(s, x)
		impl.LeastNumber(s, x)
		impl.FirstCover(s, x)
		impl.PackingBound(s, x)
		impl.PlaceBound(s, x)
		impl.AreApart(s, code, x)
		impl.GreedyApart(s, x)
		impl.GreatestNumber(s, x)
		impl.FirstApart(s, x)
		impl.CanGrow(s, code, x)
	}
	if !isUntouched(s.Sizes, sizes) || !isUntouched(code, words) || !isUntouched(places, list) {
		t.Errorf("arguments are changed: %v, %v, %v", s, code, places)
	}
}

func TestBoundsAreNewMemory(t *testing.T) {
	s, places := space(t, 3, 2, 4), []int64{0, 1}
	calls := map[string]func() []int64{
		"FreeCode":           func() []int64 { x, _ := impl.FreeCode(s, places); return x },
		"FreeCode of none":   func() []int64 { x, _ := impl.FreeCode(s, nil); return x },
		"FirstCover":         func() []int64 { x, _ := impl.FirstCover(s, 1); return x },
		"FirstCover of one":  func() []int64 { x, _ := impl.FirstCover(s, 8); return x },
		"GreedyApart":        func() []int64 { x, _ := impl.GreedyApart(s, 2); return x },
		"GreedyApart of all": func() []int64 { x, _ := impl.GreedyApart(s, 1); return x },
		"FirstApart":         func() []int64 { x, _ := impl.FirstApart(s, 2); return x },
		"FirstApart of one":  func() []int64 { x, _ := impl.FirstApart(s, 9); return x },
	}
	for name, call := range calls {
		checkNewMemory(t, name, call)
		if !slices.Equal(s.Sizes, []int64{3, 2, 4}) || !slices.Equal(places, []int64{0, 1}) {
			t.Errorf("%s gives out its arguments", name)
		}
	}
}

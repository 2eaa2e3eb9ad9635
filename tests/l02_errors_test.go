package tests

import (
	"math"
	"slices"
	"testing"

	"loop.example/g01411/impl"
)

// failCover expects an error of all functions that take a code and a radius.
func failCover(t *testing.T, s impl.Space, code []int64, r int64, want int64) {
	t.Helper()
	fails(t, "CoversSpace", yesOrNo(impl.CoversSpace(s, code, r)), want)
	fails(t, "UncoveredWords", list(impl.UncoveredWords(s, code, r)), want)
	fails(t, "TimesCovered", number(impl.TimesCovered(s, code, 0, r)), want)
	fails(t, "CoverCounts", list(impl.CoverCounts(s, code, r)), want)
	fails(t, "ExcessOf", number(impl.ExcessOf(s, code, r)), want)
	fails(t, "NeededWords", list(impl.NeededWords(s, code, r)), want)
	fails(t, "LeanCode", list(impl.LeanCode(s, code, r)), want)
}

// failDistances expects an error of all functions that take a code without a radius.
func failDistances(t *testing.T, s impl.Space, code []int64, want int64) {
	t.Helper()
	fails(t, "RadiusOf", number(impl.RadiusOf(s, code)), want)
	fails(t, "FarthestWord", number(impl.FarthestWord(s, code)), want)
	fails(t, "DistanceTo", number(impl.DistanceTo(s, code, 0)), want)
	fails(t, "NearestWords", list(impl.NearestWords(s, code, 0)), want)
}

// failWord expects an error of all functions that take a word beside a code.
func failWord(t *testing.T, s impl.Space, code []int64, w int64, want int64) {
	t.Helper()
	fails(t, "TimesCovered", number(impl.TimesCovered(s, code, w, 1)), want)
	fails(t, "DistanceTo", number(impl.DistanceTo(s, code, w)), want)
	fails(t, "NearestWords", list(impl.NearestWords(s, code, w)), want)
}

// noWords are no words of a space of n words.
func noWords(n int64) []int64 {
	return []int64{-1, n, n + 1, -n, 1 << 32, math.MinInt64, math.MaxInt64}
}

func noRadii() []int64 {
	return []int64{-1, impl.MaxPlaces + 1, 64, -64, math.MinInt64, math.MaxInt64}
}

func TestCoversOfNoSpace(t *testing.T) {
	// Beside something that is no space, no other argument counts, also one that is wrong itself.
	for _, s := range noSpaces() {
		for _, code := range [][]int64{nil, {0}, {0, 1}, {1, 0}, {-1}, {5000}, {0, 0}} {
			for _, r := range append(noRadii(), 0, 1, impl.MaxPlaces) {
				failCover(t, s, code, r, impl.ErrInvalid)
				fails(t, "GreedyCode", list(impl.GreedyCode(s, r)), impl.ErrInvalid)
			}
			for _, w := range append(noWords(2), 0, 1) {
				failWord(t, s, code, w, impl.ErrInvalid)
			}
			failDistances(t, s, code, impl.ErrInvalid)
		}
	}
}

func TestCoversOfNoCode(t *testing.T) {
	for _, s := range append(smallSpaces(t), largeSpaces(t)...) {
		n, _ := impl.CountWords(s)
		for _, code := range noCodes(n) {
			failCover(t, s, code, 0, impl.ErrRange)
			failCover(t, s, code, impl.MaxPlaces, impl.ErrRange)
			failCover(t, s, code, -1, impl.ErrRange)
			failDistances(t, s, code, impl.ErrRange)
			failWord(t, s, code, -1, impl.ErrRange)
		}
	}
}

func TestCoversOfNoRadius(t *testing.T) {
	for _, s := range append(smallSpaces(t), largeSpaces(t)...) {
		n, _ := impl.CountWords(s)
		for _, r := range noRadii() {
			// The code without words covers nothing, but ErrRange comes before ErrState.
			for _, code := range [][]int64{nil, {0}, {0, n - 1}, upTo(n)} {
				failCover(t, s, code, r, impl.ErrRange)
			}
			fails(t, "GreedyCode", list(impl.GreedyCode(s, r)), impl.ErrRange)
		}
	}
}

func TestCoversOfNoWord(t *testing.T) {
	for _, s := range append(smallSpaces(t), largeSpaces(t)...) {
		n, _ := impl.CountWords(s)
		for _, w := range noWords(n) {
			for _, code := range [][]int64{nil, {0}, {0, n - 1}, upTo(n)} {
				failWord(t, s, code, w, impl.ErrRange)
			}
			fails(t, "TimesCovered", number(impl.TimesCovered(s, []int64{0}, w, 9)), impl.ErrRange)
		}
	}
}

func TestCoversOfCodesWithoutWords(t *testing.T) {
	for _, s := range append(smallSpaces(t), largeSpaces(t)...) {
		for _, code := range [][]int64{nil, {}} {
			fails(t, "RadiusOf", number(impl.RadiusOf(s, code)), impl.ErrState)
			fails(t, "FarthestWord", number(impl.FarthestWord(s, code)), impl.ErrState)
			fails(t, "DistanceTo", number(impl.DistanceTo(s, code, 1)), impl.ErrState)
			fails(t, "NearestWords", list(impl.NearestWords(s, code, 1)), impl.ErrNone)
			for r := range int64(impl.MaxPlaces + 1) {
				fails(t, "ExcessOf", number(impl.ExcessOf(s, code, r)), impl.ErrState)
				fails(t, "CoversSpace", yesOrNo(impl.CoversSpace(s, code, r)), impl.ErrNone)
				fails(t, "TimesCovered", number(impl.TimesCovered(s, code, 1, r)), impl.ErrNone)
				fails(t, "NeededWords", list(impl.NeededWords(s, code, r)), impl.ErrNone)
				fails(t, "LeanCode", list(impl.LeanCode(s, code, r)), impl.ErrNone)
			}
		}
	}
}

func TestCoversLeaveArgumentsAsTheyAre(t *testing.T) {
	sizes, words := []int64{3, 2, 4}, []int64{1, 5, 9, 10, 22}
	s := impl.Space{Sizes: withSpare(sizes)}
	code := withSpare(words)
	impl.CoversSpace(s, code, 1)
	impl.UncoveredWords(s, code, 1)
	impl.RadiusOf(s, code)
	impl.TimesCovered(s, code, 3, 1)
	impl.CoverCounts(s, code, 1)
	impl.ExcessOf(s, code, 2)
	impl.NeededWords(s, code, 2)
	impl.LeanCode(s, code, 2)
	impl.GreedyCode(s, 1)
	impl.DistanceTo(s, code, 3)
	impl.NearestWords(s, code, 3)
	impl.FarthestWord(s, code)
	if !isUntouched(s.Sizes, sizes) || !isUntouched(code, words) {
		t.Errorf("arguments are changed: %v, %v", s, code)
	}
}

func TestCoversAreNewMemory(t *testing.T) {
	s, code := space(t, 3, 2, 4), []int64{1, 5, 9, 22}
	calls := map[string]func() []int64{
		"UncoveredWords": func() []int64 { x, _ := impl.UncoveredWords(s, code, 1); return x },
		"CoverCounts":    func() []int64 { x, _ := impl.CoverCounts(s, code, 1); return x },
		"NeededWords":    func() []int64 { x, _ := impl.NeededWords(s, code, 0); return x },
		"LeanCode":       func() []int64 { x, _ := impl.LeanCode(s, code, 0); return x },
		"GreedyCode":     func() []int64 { x, _ := impl.GreedyCode(s, 1); return x },
		"NearestWords":   func() []int64 { x, _ := impl.NearestWords(s, code, 3); return x },
	}
	for name, call := range calls {
		checkNewMemory(t, name, call)
		if !slices.Equal(s.Sizes, []int64{3, 2, 4}) || !slices.Equal(code, []int64{1, 5, 9, 22}) {
			t.Errorf("%s gives out its arguments", name)
		}
	}
}

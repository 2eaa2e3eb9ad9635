package tests

import (
	"slices"
	"testing"

	"loop.example/g01411/impl"
)

// failPerfect expects an error of all functions that take a code and a radius.
func failPerfect(t *testing.T, s impl.Space, code []int64, r int64, want int64) {
	t.Helper()
	fails(t, "IsPerfect", yesOrNo(impl.IsPerfect(s, code, r)), want)
	fails(t, "DecodeWord", number(impl.DecodeWord(s, code, r, 0)), want)
}

// failShifts expects an error of the functions that shift a code.
func failShifts(t *testing.T, s impl.Space, code []int64, want int64) {
	t.Helper()
	fails(t, "FirstShifts", list(impl.FirstShifts(s, code)), want)
	for _, shifts := range [][]int64{nil, {0}, {1, 0}, {1, 1}, make([]int64, 1100)} {
		fails(t, "DoPart", yesOrNo(impl.DoPart(s, code, shifts)), want)
	}
}

// failBundle expects an error of the functions that take a word and a place.
func failBundle(t *testing.T, s impl.Space, code []int64, w int64, i int64, want int64) {
	t.Helper()
	fails(t, "BundleOf", list(impl.BundleOf(s, code, w, i)), want)
	fails(t, "SwitchBundle", list(impl.SwitchBundle(s, code, w, i)), want)
}

func TestPerfectOfNoSpace(t *testing.T) {
	// Beside something that is no space, no other argument counts, also one that is wrong itself.
	for _, s := range noSpaces() {
		for _, code := range [][]int64{nil, {0}, {0, 1}, {1, 0}, {-1}, {5000}, {0, 0}} {
			for _, r := range append(noRadii(), 0, 1, impl.MaxPlaces) {
				failPerfect(t, s, code, r, impl.ErrInvalid)
			}
			for _, w := range append(noWords(2), 0, 1) {
				fails(t, "DecodeWord", number(impl.DecodeWord(s, code, 1, w)), impl.ErrInvalid)
				fails(t, "DoPart", yesOrNo(impl.DoPart(s, code, []int64{w})), impl.ErrInvalid)
				failBundle(t, s, code, w, 0, impl.ErrInvalid)
				failBundle(t, s, code, 0, w, impl.ErrInvalid)
			}
			fails(t, "PerfectRadius", number(impl.PerfectRadius(s, code)), impl.ErrInvalid)
			failShifts(t, s, code, impl.ErrInvalid)
		}
	}
}

func TestPerfectOfNoCode(t *testing.T) {
	// Most of these spaces have places of other sizes than 2, and no such list is perfect, but ErrRange
	// comes before ErrState and ErrNotFound.
	for _, s := range append(smallSpaces(t), largeSpaces(t)...) {
		n, _ := impl.CountWords(s)
		for _, code := range noCodes(n) {
			for _, r := range []int64{0, 1, impl.MaxPlaces, -1, impl.MaxPlaces + 1} {
				failPerfect(t, s, code, r, impl.ErrRange)
			}
			fails(t, "PerfectRadius", number(impl.PerfectRadius(s, code)), impl.ErrRange)
			fails(t, "DecodeWord", number(impl.DecodeWord(s, code, 1, n)), impl.ErrRange)
			fails(t, "DoPart", yesOrNo(impl.DoPart(s, code, []int64{n})), impl.ErrRange)
			failShifts(t, s, code, impl.ErrRange)
			failBundle(t, s, code, 0, 0, impl.ErrRange)
			failBundle(t, s, code, n, 0, impl.ErrRange)
			failBundle(t, s, code, 0, int64(len(s.Sizes)), impl.ErrRange)
		}
	}
}

func TestPerfectOfNoRadius(t *testing.T) {
	for _, s := range append(smallSpaces(t), largeSpaces(t)...) {
		n, _ := impl.CountWords(s)
		for _, r := range noRadii() {
			// None of these codes is perfect for r, but ErrRange comes before ErrState.
			for _, code := range [][]int64{nil, {0}, {0, n - 1}, upTo(n)} {
				failPerfect(t, s, code, r, impl.ErrRange)
				fails(t, "DecodeWord", number(impl.DecodeWord(s, code, r, n)), impl.ErrRange)
			}
		}
	}
}

func TestPerfectOfNoWord(t *testing.T) {
	for _, s := range append(smallSpaces(t), largeSpaces(t)...) {
		n, _ := impl.CountWords(s)
		for _, w := range noWords(n) {
			for _, code := range [][]int64{nil, {0}, {1}, {0, n - 1}, upTo(n)} {
				for _, r := range []int64{0, 1, impl.MaxPlaces} {
					fails(t, "DecodeWord", number(impl.DecodeWord(s, code, r, w)), impl.ErrRange)
				}
				for _, shifts := range [][]int64{{w}, {0, w}, {w, 0}, {w, w}, append(upTo(n), w), append(upTo(n-1), w)} {
					fails(t, "DoPart", yesOrNo(impl.DoPart(s, code, shifts)), impl.ErrRange)
				}
				failBundle(t, s, code, w, 0, impl.ErrRange)
				failBundle(t, s, code, w, -1, impl.ErrRange)
			}
		}
	}
}

func TestBundlesAtNoPlace(t *testing.T) {
	for _, s := range append(smallSpaces(t), largeSpaces(t)...) {
		n, _ := impl.CountWords(s)
		for _, i := range append(noWords(int64(len(s.Sizes))), impl.MaxPlaces, 64) {
			for _, code := range [][]int64{nil, {0}, {0, n - 1}, upTo(n)} {
				failBundle(t, s, code, 0, i, impl.ErrRange)
				failBundle(t, s, code, 1, i, impl.ErrRange)
			}
		}
	}
}

// Where a place has another size than 2, also codes that are perfect for 1 have no bundles.
func TestBundlesOfOtherSizes(t *testing.T) {
	perfectForOne := 0
	for _, c := range perfectCases(t) {
		if slices.Max(c.space.Sizes) == 2 {
			continue
		}
		if c.isPerfect(1) {
			perfectForOne++
		}
		for i := range int64(len(c.space.Sizes)) {
			failBundle(t, c.space, c.code, c.code[0], i, impl.ErrState)
			failBundle(t, c.space, c.code, int64(len(c.table)-1), i, impl.ErrState)
		}
	}
	if perfectForOne == 0 {
		t.Errorf("no code is perfect for 1")
	}
}

func TestBundlesOfOtherCodes(t *testing.T) {
	for n := 1; n <= impl.MaxPlaces; n++ {
		s := space(t, slices.Repeat([]int64{2}, n)...)
		codes := append(someCodes(s), []int64{})
		if n <= 3 {
			codes = allCodes(1 << n)
		}
		for _, code := range codes {
			if perfect, _ := impl.IsPerfect(s, code, 1); perfect {
				continue
			}
			failBundle(t, s, code, 0, 0, impl.ErrState)
			failBundle(t, s, code, 1, int64(n-1), impl.ErrState)
		}
	}
	// A code that is perfect for another radius than 1 has no bundles.
	for _, code := range [][]int64{{0, 31}, {7, 24}} {
		failBundle(t, space(t, 2, 2, 2, 2, 2), code, code[0], 0, impl.ErrState)
	}
}

func TestBundlesOfOtherWords(t *testing.T) {
	for n, codes := range bundleCodes(t) {
		s := space(t, slices.Repeat([]int64{2}, n)...)
		for _, code := range codes {
			others, _ := impl.OppositeCode(s, code)
			for _, w := range others {
				failBundle(t, s, code, w, 0, impl.ErrState)
				failBundle(t, s, code, w, int64(n-1), impl.ErrState)
				failBundle(t, s, code, w, int64(n), impl.ErrRange)
			}
		}
	}
}

func TestShiftsOfCodesWithoutWords(t *testing.T) {
	for _, s := range append(smallSpaces(t), largeSpaces(t)...) {
		n, _ := impl.CountWords(s)
		for _, code := range [][]int64{nil, {}} {
			failShifts(t, s, code, impl.ErrState)
			fails(t, "DoPart", yesOrNo(impl.DoPart(s, code, upTo(n))), impl.ErrState)
			fails(t, "DoPart", yesOrNo(impl.DoPart(s, code, []int64{0, n})), impl.ErrRange)
		}
	}
}

func TestPerfectLeavesArgumentsAsTheyAre(t *testing.T) {
	sizes, words, list := []int64{2, 2, 2}, []int64{1, 6}, []int64{4, 0, 7, 5}
	s := impl.Space{Sizes: withSpare(sizes)}
	code, shifts := withSpare(words), withSpare(list)
	for x := range int64(8) {
		impl.IsPerfect(s, code, x)
		impl.PerfectRadius(s, code)
		impl.DecodeWord(s, code, 1, x)
		impl.CountPerfect(s, x)
		impl.FirstPerfect(s, x)
		impl.FirstShifts(s, code)
		impl.DoPart(s, code, shifts)
		impl.BundleOf(s, code, 1+x%2*5, x%3)
		impl.SwitchBundle(s, code, 1+x%2*5, x%3)
	}
	if !isUntouched(s.Sizes, sizes) || !isUntouched(code, words) || !isUntouched(shifts, list) {
		t.Errorf("arguments are changed: %v, %v, %v", s, code, shifts)
	}
}

func TestPerfectResultsAreNewMemory(t *testing.T) {
	s, code := space(t, 2, 2, 2), []int64{1, 6}
	calls := map[string]func() []int64{
		"FirstPerfect":        func() []int64 { x, _ := impl.FirstPerfect(s, 1); return x },
		"FirstPerfect of one": func() []int64 { x, _ := impl.FirstPerfect(s, 3); return x },
		"FirstShifts":         func() []int64 { x, _ := impl.FirstShifts(s, code); return x },
		"FirstShifts of one":  func() []int64 { x, _ := impl.FirstShifts(s, code[:1]); return x },
		"BundleOf":            func() []int64 { x, _ := impl.BundleOf(s, code, 1, 0); return x },
		"SwitchBundle":        func() []int64 { x, _ := impl.SwitchBundle(s, code, 1, 0); return x },
	}
	for name, call := range calls {
		checkNewMemory(t, name, func() []int64 {
			x := call()
			fill(x[len(x):])
			return x
		})
		if !slices.Equal(s.Sizes, []int64{2, 2, 2}) || !slices.Equal(code, []int64{1, 6}) {
			t.Errorf("%s gives out its arguments", name)
		}
	}
}

package tests

import (
	"slices"
	"testing"

	"loop.example/g01411/impl"
)

// slips tells whether a list of slips is the zero value.
func slips(x []impl.Slip, code int64) answer { return answer{len(x) == 0, code} }

// failSlip expects an error of all functions that take a slip alone or with other things that are
// right.
func failSlip(t *testing.T, s impl.Space, slip impl.Slip, want int64) {
	t.Helper()
	fails(t, "CountBets", number(impl.CountBets(s, slip)), want)
	fails(t, "BetsOf", list(impl.BetsOf(s, slip)), want)
	fails(t, "SlipsInCommon", list(impl.SlipsInCommon(s, slip, allSigns(s))), want)
	fails(t, "SlipsInCommon", list(impl.SlipsInCommon(s, allSigns(s), slip)), want)
	fails(t, "SlipsInCommon", list(impl.SlipsInCommon(s, slip, slip)), want)
	fails(t, "SplitSlip", slips(impl.SplitSlip(s, slip, 0)), want)
	fails(t, "SlipText", text(impl.SlipText(s, slip)), want)
	for _, r := range []int64{0, 1, impl.MaxPlaces} {
		fails(t, "ReducedSystem", list(impl.ReducedSystem(s, slip, r)), want)
	}
	failPlay(t, s, slip, []int64{0, 1}, want)
}

// failPlay expects an error of all functions that take a slip and a code.
func failPlay(t *testing.T, s impl.Space, slip impl.Slip, code []int64, want int64) {
	t.Helper()
	fails(t, "GuaranteeOf", number(impl.GuaranteeOf(s, slip, code)), want)
	fails(t, "WorstResult", number(impl.WorstResult(s, slip, code)), want)
	fails(t, "NotNeeded", list(impl.NotNeeded(s, slip, code)), want)
}

// failBets expects an error of all functions that take a code without a slip.
func failBets(t *testing.T, s impl.Space, code []int64, result int64, want int64) {
	t.Helper()
	fails(t, "BestHits", number(impl.BestHits(s, code, result)), want)
	fails(t, "PrizeList", list(impl.PrizeList(s, code, result)), want)
}

func TestPoolsOfNoSpace(t *testing.T) {
	// Beside something that is no space, no other argument counts, also one that is wrong itself.
	for _, s := range noSpaces() {
		for _, slip := range []impl.Slip{nil, {1}, {1, 1}, {0}, {-1}, {16}, {3, 3, 3, 3, 3, 3, 3, 3}, make(impl.Slip, len(s.Sizes)), slices.Repeat(impl.Slip{1}, len(s.Sizes))} {
			fails(t, "IsSlip", yesOrNo(impl.IsSlip(s, slip)), impl.ErrInvalid)
			fails(t, "CountBets", number(impl.CountBets(s, slip)), impl.ErrInvalid)
			fails(t, "BetsOf", list(impl.BetsOf(s, slip)), impl.ErrInvalid)
			fails(t, "SlipText", text(impl.SlipText(s, slip)), impl.ErrInvalid)
			for _, other := range []impl.Slip{nil, slip, {1}, {2}, {-1}} {
				fails(t, "SlipsInCommon", list(impl.SlipsInCommon(s, slip, other)), impl.ErrInvalid)
			}
			for _, x := range append(noRadii(), 0, 1, impl.MaxPlaces) {
				fails(t, "SplitSlip", slips(impl.SplitSlip(s, slip, x)), impl.ErrInvalid)
				fails(t, "ReducedSystem", list(impl.ReducedSystem(s, slip, x)), impl.ErrInvalid)
			}
			for _, code := range [][]int64{nil, {0}, {0, 1}, {1, 0}, {-1}, {5000}, {0, 0}} {
				failPlay(t, s, slip, code, impl.ErrInvalid)
			}
		}
		for _, code := range [][]int64{nil, {0}, {0, 1}, {1, 0}, {-1}, {5000}, {0, 0}} {
			fails(t, "LeastSlip", list(impl.LeastSlip(s, code)), impl.ErrInvalid)
			for _, w := range append(noWords(2), 0, 1) {
				failBets(t, s, code, w, impl.ErrInvalid)
				fails(t, "HitsOf", number(impl.HitsOf(s, w, 0)), impl.ErrInvalid)
				fails(t, "HitsOf", number(impl.HitsOf(s, 0, w)), impl.ErrInvalid)
			}
		}
		fails(t, "FullSlip", list(impl.FullSlip(s)), impl.ErrInvalid)
		for _, text := range []string{"", "0", "01", "0.0", "01.01", ".", "4", "x"} {
			fails(t, "ParseSlip", list(impl.ParseSlip(s, text)), impl.ErrInvalid)
		}
	}
}

func TestPoolsOfNoSlip(t *testing.T) {
	for _, s := range append(smallSpaces(t), largeSpaces(t)...) {
		n, _ := impl.CountWords(s)
		for _, slip := range noSlips(s) {
			failSlip(t, s, slip, impl.ErrRange)
			// These codes have too few words or are none, but ErrRange comes before ErrState.
			for _, code := range [][]int64{nil, {0}, {n}, {1, 0}} {
				failPlay(t, s, slip, code, impl.ErrRange)
			}
			for _, x := range noRadii() {
				fails(t, "SplitSlip", slips(impl.SplitSlip(s, slip, x)), impl.ErrRange)
				fails(t, "ReducedSystem", list(impl.ReducedSystem(s, slip, x)), impl.ErrRange)
			}
		}
	}
}

// Slips have no bet in common with these, but a list that is no slip is found first.
func TestCommonSlipsWithNoSlip(t *testing.T) {
	for _, s := range append(smallSpaces(t), largeSpaces(t)...) {
		digits := digitLists(s.Sizes)
		first, last := oneSign(digits[0]), oneSign(digits[len(digits)-1])
		fails(t, "SlipsInCommon", list(impl.SlipsInCommon(s, first, last)), impl.ErrNotFound)
		for _, slip := range noSlips(s) {
			for _, other := range []impl.Slip{first, last} {
				fails(t, "SlipsInCommon", list(impl.SlipsInCommon(s, slip, other)), impl.ErrRange)
				fails(t, "SlipsInCommon", list(impl.SlipsInCommon(s, other, slip)), impl.ErrRange)
			}
		}
	}
}

func TestPoolsOfNoCode(t *testing.T) {
	for _, s := range append(smallSpaces(t), largeSpaces(t)...) {
		n, _ := impl.CountWords(s)
		for _, code := range noCodes(n) {
			fails(t, "LeastSlip", list(impl.LeastSlip(s, code)), impl.ErrRange)
			for _, slip := range someSlips(s) {
				failPlay(t, s, slip, code, impl.ErrRange)
			}
			for _, result := range append(noWords(n), 0, n-1) {
				failBets(t, s, code, result, impl.ErrRange)
			}
		}
	}
}

func TestPoolsOfNoWord(t *testing.T) {
	for _, s := range append(smallSpaces(t), largeSpaces(t)...) {
		n, _ := impl.CountWords(s)
		for _, w := range noWords(n) {
			for _, other := range append(noWords(n), 0, n-1) {
				fails(t, "HitsOf", number(impl.HitsOf(s, w, other)), impl.ErrRange)
				fails(t, "HitsOf", number(impl.HitsOf(s, other, w)), impl.ErrRange)
			}
			// The code without words has no best hits, but ErrRange comes before ErrState.
			for _, code := range [][]int64{nil, {0}, {0, n - 1}, upTo(n)} {
				failBets(t, s, code, w, impl.ErrRange)
			}
		}
	}
}

func TestSplitSlipsAtNoMatch(t *testing.T) {
	for _, s := range append(smallSpaces(t), largeSpaces(t)...) {
		n := int64(len(s.Sizes))
		for _, slip := range someSlips(s) {
			for _, i := range append(noWords(n), impl.MaxPlaces, impl.MaxPlaces+1, 64) {
				fails(t, "SplitSlip", slips(impl.SplitSlip(s, slip, i)), impl.ErrRange)
			}
		}
	}
}

func TestReducedSystemsOfNoRadius(t *testing.T) {
	for _, s := range append(smallSpaces(t), largeSpaces(t)...) {
		// Some of these slips have more than MaxBets bets, but ErrRange comes before ErrLimit.
		for _, slip := range someSlips(s) {
			for _, r := range noRadii() {
				fails(t, "ReducedSystem", list(impl.ReducedSystem(s, slip, r)), impl.ErrRange)
			}
		}
	}
	for _, x := range limitSlips() {
		for _, r := range noRadii() {
			fails(t, "ReducedSystem", list(impl.ReducedSystem(space(t, x.sizes...), x.slip, r)), impl.ErrRange)
		}
	}
}

func TestPoolsOfCodesOfFewWords(t *testing.T) {
	for _, s := range append(smallSpaces(t), largeSpaces(t)...) {
		n, _ := impl.CountWords(s)
		for _, code := range [][]int64{nil, {}} {
			fails(t, "LeastSlip", list(impl.LeastSlip(s, code)), impl.ErrState)
			fails(t, "BestHits", number(impl.BestHits(s, code, 1)), impl.ErrState)
			if prizes, err := impl.PrizeList(s, code, n-1); !slices.Equal(prizes, make([]int64, len(s.Sizes)+1)) || err != impl.ErrNone {
				t.Errorf("PrizeList(%v) of no bets = %v, %d", s, prizes, err)
			}
			for _, slip := range someSlips(s) {
				failPlay(t, s, slip, code, impl.ErrState)
			}
		}
		for _, w := range []int64{0, 1, n - 1} {
			for _, slip := range someSlips(s) {
				fails(t, "NotNeeded", list(impl.NotNeeded(s, slip, []int64{w})), impl.ErrState)
				if _, err := impl.GuaranteeOf(s, slip, []int64{w}); err != impl.ErrNone {
					t.Errorf("GuaranteeOf(%v, %v) of one bet: %d", s, slip, err)
				}
			}
		}
	}
}

func TestPoolsLeaveArgumentsAsTheyAre(t *testing.T) {
	sizes, words := []int64{3, 2, 4}, []int64{1, 5, 9, 10, 22}
	first, second := []int64{5, 3, 14}, []int64{6, 2, 7}
	s := impl.Space{Sizes: withSpare(sizes)}
	code, slip, other := withSpare(words), impl.Slip(withSpare(first)), impl.Slip(withSpare(second))
	impl.IsSlip(s, slip)
	impl.FullSlip(s)
	impl.CountBets(s, slip)
	impl.BetsOf(s, slip)
	impl.SlipsInCommon(s, slip, other)
	impl.LeastSlip(s, code)
	impl.SlipText(s, slip)
	impl.ParseSlip(s, "02.01.123")
	for x := range int64(3) {
		impl.SplitSlip(s, slip, x)
		impl.HitsOf(s, x, 22)
		impl.BestHits(s, code, x)
		impl.PrizeList(s, code, x)
		impl.ReducedSystem(s, slip, x)
		impl.GuaranteeOf(s, slip, code[x:])
		impl.WorstResult(s, slip, code[x:])
		impl.NotNeeded(s, slip, code[x:])
	}
	if !isUntouched(s.Sizes, sizes) || !isUntouched(code, words) || !isUntouched(slip, first) || !isUntouched(other, second) {
		t.Errorf("arguments are changed: %v, %v, %v, %v", s, code, slip, other)
	}
}

func TestPoolsAreNewMemory(t *testing.T) {
	s, code, slip := space(t, 3, 2, 4), []int64{0, 1, 9, 22}, impl.Slip{5, 3, 14}
	calls := map[string]func() []int64{
		"FullSlip":                  func() []int64 { x, _ := impl.FullSlip(s); return x },
		"BetsOf":                    func() []int64 { x, _ := impl.BetsOf(s, slip); return x },
		"SlipsInCommon with itself": func() []int64 { x, _ := impl.SlipsInCommon(s, slip, slip); return x },
		"SplitSlip":                 func() []int64 { x, _ := impl.SplitSlip(s, slip, 2); return x[1] },
		"LeastSlip":                 func() []int64 { x, _ := impl.LeastSlip(s, code); return x },
		"PrizeList":                 func() []int64 { x, _ := impl.PrizeList(s, code, 3); return x },
		"ReducedSystem":             func() []int64 { x, _ := impl.ReducedSystem(s, slip, 1); return x },
		"NotNeeded":                 func() []int64 { x, _ := impl.NotNeeded(s, impl.Slip{1, 1, 1}, code); return x },
		"NotNeeded of all words":    func() []int64 { x, _ := impl.NotNeeded(s, impl.Slip{4, 2, 1}, code[:2]); return x },
		"ParseSlip":                 func() []int64 { x, _ := impl.ParseSlip(s, "02.01.123"); return x },
	}
	for name, call := range calls {
		checkNewMemory(t, name, func() []int64 {
			x := call()
			fill(x[len(x):])
			return x
		})
		if !slices.Equal(s.Sizes, []int64{3, 2, 4}) || !slices.Equal(code, []int64{0, 1, 9, 22}) || !slices.Equal(slip, impl.Slip{5, 3, 14}) {
			t.Errorf("%s gives out its arguments", name)
		}
	}
}

// No split slip may share memory with another one, also not by what is behind it.
func TestSplitSlipsAreNewMemory(t *testing.T) {
	s, slip := space(t, 3, 2, 4), impl.Slip{5, 3, 15}
	for i := range int64(3) {
		want, _ := impl.SplitSlip(s, slip, i)
		for k := range want {
			split, _ := impl.SplitSlip(s, slip, i)
			fill(split[k])
			for other := range split {
				if other != k && !slices.Equal(split[other], want[other]) {
					t.Errorf("SplitSlip(%d): the slips %d and %d share memory", i, k, other)
				}
			}
		}
		if !slices.Equal(slip, impl.Slip{5, 3, 15}) {
			t.Fatalf("SplitSlip gives out its argument")
		}
	}
}

package tests

import (
	"slices"
	"testing"

	"loop.example/g01411/impl"
)

// mostGiven words, or checks, may be given.
const mostGiven = 20

// failLinear expects an error of all functions that ask for a linear code.
func failLinear(t *testing.T, s impl.Space, code []int64, want int64) {
	t.Helper()
	fails(t, "DimensionOf", number(impl.DimensionOf(s, code)), want)
	fails(t, "LeastBasis", list(impl.LeastBasis(s, code)), want)
	fails(t, "DualCode", list(impl.DualCode(s, code)), want)
	fails(t, "DualCounts", list(impl.DualCounts(s, code)), want)
	fails(t, "LeadersOf", list(impl.LeadersOf(s, code)), want)
	fails(t, "RadiusByLeaders", number(impl.RadiusByLeaders(s, code)), want)
	fails(t, "NearestWord", number(impl.NearestWord(s, code, 0)), want)
	fails(t, "NearestWord", number(impl.NearestWord(s, code, 1)), want)
}

// failGiven expects an error of the functions that take words in any order.
func failGiven(t *testing.T, s impl.Space, words []int64, want int64) {
	t.Helper()
	fails(t, "SpanOf", list(impl.SpanOf(s, words)), want)
	fails(t, "SyndromeOf", list(impl.SyndromeOf(s, words, 0)), want)
	fails(t, "SyndromeOf", list(impl.SyndromeOf(s, words, 1)), want)
}

// linearSpaces are plain spaces and others: what is not in a space is ErrRange in all of them.
func linearSpaces(t *testing.T) []impl.Space {
	spaces := notPlainSpaces(t)
	for _, x := range append(smallPlainSpaces(t), largePlainSpaces(t)...) {
		spaces = append(spaces, x.space)
	}
	return spaces
}

func TestLinearOfNoSpace(t *testing.T) {
	// Beside something that is no space, no other argument counts, also one that is wrong itself.
	for _, s := range noSpaces() {
		fails(t, "IsPlain", yesOrNo(impl.IsPlain(s)), impl.ErrInvalid)
		for _, words := range [][]int64{nil, {0}, {0, 1}, {1, 0}, {-1}, {5000}, {0, 0}, make([]int64, mostGiven+1), upTo(3000)} {
			fails(t, "IsLinear", yesOrNo(impl.IsLinear(s, words)), impl.ErrInvalid)
			fails(t, "WeightCounts", list(impl.WeightCounts(s, words)), impl.ErrInvalid)
			failLinear(t, s, words, impl.ErrInvalid)
			failGiven(t, s, words, impl.ErrInvalid)
			for _, w := range append(noWords(2), 0, 1) {
				fails(t, "SyndromeOf", list(impl.SyndromeOf(s, words, w)), impl.ErrInvalid)
				fails(t, "NearestWord", number(impl.NearestWord(s, words, w)), impl.ErrInvalid)
			}
		}
	}
}

func TestLinearOfNoCode(t *testing.T) {
	// Not all of these spaces are plain, but ErrRange comes before ErrState.
	for _, s := range linearSpaces(t) {
		n, _ := impl.CountWords(s)
		for _, code := range noCodes(n) {
			fails(t, "IsLinear", yesOrNo(impl.IsLinear(s, code)), impl.ErrRange)
			fails(t, "WeightCounts", list(impl.WeightCounts(s, code)), impl.ErrRange)
			failLinear(t, s, code, impl.ErrRange)
			fails(t, "NearestWord", number(impl.NearestWord(s, code, n)), impl.ErrRange)
		}
	}
}

func TestLinearOfNoWord(t *testing.T) {
	for _, s := range linearSpaces(t) {
		n, _ := impl.CountWords(s)
		for _, w := range noWords(n) {
			for _, words := range [][]int64{{w}, {0, w}, {w, 0}, {w, w}, {n - 1, w, 1}, append(make([]int64, mostGiven-1), w)} {
				failGiven(t, s, words, impl.ErrRange)
			}
			// Neither the code without words nor that of the word 1 is linear.
			for _, code := range [][]int64{nil, {0}, {1}, {0, n - 1}, upTo(n)} {
				fails(t, "NearestWord", number(impl.NearestWord(s, code, w)), impl.ErrRange)
			}
			for _, checks := range [][]int64{nil, {0}, {1, n - 1}, make([]int64, mostGiven), make([]int64, mostGiven+1)} {
				fails(t, "SyndromeOf", list(impl.SyndromeOf(s, checks, w)), impl.ErrRange)
			}
		}
	}
}

func TestTooManyWordsGiven(t *testing.T) {
	for _, s := range linearSpaces(t) {
		n, _ := impl.CountWords(s)
		isPlain, _ := impl.IsPlain(s)
		for count := range mostGiven + 1 {
			words := slices.Repeat([]int64{n - 1}, count)
			if !isPlain {
				failGiven(t, s, words, impl.ErrState)
				continue
			}
			span, err := impl.SpanOf(s, words)
			if len(span) < 1 || count > 0 && len(span) != int(s.Sizes[0]) || err != impl.ErrNone {
				t.Errorf("SpanOf(%v, %v) = %v, %d", s, words, span, err)
			}
			if syndrome, err := impl.SyndromeOf(s, words, 1); len(syndrome) != count || err != impl.ErrNone {
				t.Errorf("SyndromeOf(%v, %v, 1) = %v, %d", s, words, syndrome, err)
			}
		}
		// More of them are too many, be they all the same, or all words of the space.
		for _, words := range [][]int64{make([]int64, mostGiven+1), slices.Repeat([]int64{n - 1}, mostGiven+1), make([]int64, 5000)} {
			failGiven(t, s, words, impl.ErrRange)
		}
		if n > mostGiven {
			failGiven(t, s, upTo(mostGiven+1), impl.ErrRange)
			failGiven(t, s, upTo(n), impl.ErrRange)
		}
	}
}

func TestLinearOfSpacesThatAreNotPlain(t *testing.T) {
	for _, s := range notPlainSpaces(t) {
		n, _ := impl.CountWords(s)
		for _, code := range append(someCodes(s), []int64{}) {
			failLinear(t, s, code, impl.ErrState)
			fails(t, "NearestWord", number(impl.NearestWord(s, code, n-1)), impl.ErrState)
		}
		for _, words := range [][]int64{nil, {}, {0}, {n - 1, 0}, {1, 1}, make([]int64, mostGiven)} {
			failGiven(t, s, words, impl.ErrState)
		}
	}
}

func TestLinearOfOtherCodes(t *testing.T) {
	for _, x := range append(smallPlainSpaces(t), largePlainSpaces(t)...) {
		n := int64(len(x.lists))
		codes := someCodes(x.space)
		if n <= 9 {
			codes = allCodes(n)
		}
		for _, code := range codes {
			if !x.isLinear(code) {
				failLinear(t, x.space, code, impl.ErrState)
				fails(t, "NearestWord", number(impl.NearestWord(x.space, code, n-1)), impl.ErrState)
			}
		}
	}
}

func TestLinearOfCodesWithoutWords(t *testing.T) {
	for _, s := range linearSpaces(t) {
		for _, code := range [][]int64{nil, {}} {
			failLinear(t, s, code, impl.ErrState)
			fails(t, "IsLinear", yesOrNo(impl.IsLinear(s, code)), impl.ErrNone)
			counts, err := impl.WeightCounts(s, code)
			checkCode(t, "WeightCounts of no words", counts, err, make([]int64, len(s.Sizes)+1))
		}
	}
}

func TestLinearLeavesArgumentsAsTheyAre(t *testing.T) {
	sizes, words, lists := []int64{3, 3, 3}, []int64{0, 13, 26}, []int64{26, 4, 4, 0, 9}
	s := impl.Space{Sizes: withSpare(sizes)}
	code, given := withSpare(words), withSpare(lists)
	impl.IsPlain(s)
	impl.IsLinear(s, code)
	impl.SpanOf(s, given)
	impl.DimensionOf(s, code)
	impl.LeastBasis(s, code)
	impl.DualCode(s, code)
	impl.SyndromeOf(s, given, 5)
	impl.WeightCounts(s, code)
	impl.DualCounts(s, code)
	impl.LeadersOf(s, code)
	impl.RadiusByLeaders(s, code)
	impl.NearestWord(s, code, 5)
	if !isUntouched(s.Sizes, sizes) || !isUntouched(code, words) || !isUntouched(given, lists) {
		t.Errorf("arguments are changed: %v, %v, %v", s, code, given)
	}
}

func TestLinearResultsAreNewMemory(t *testing.T) {
	s, code, given := space(t, 3, 3, 3), []int64{0, 13, 26}, []int64{13}
	calls := map[string]func() []int64{
		"SpanOf":                 func() []int64 { x, _ := impl.SpanOf(s, given); return x },
		"SpanOf none":            func() []int64 { x, _ := impl.SpanOf(s, nil); return x },
		"SpanOf a code":          func() []int64 { x, _ := impl.SpanOf(s, code); return x },
		"LeastBasis":             func() []int64 { x, _ := impl.LeastBasis(s, code); return x },
		"DualCode":               func() []int64 { x, _ := impl.DualCode(s, code); return x },
		"DualCode of the word 0": func() []int64 { x, _ := impl.DualCode(s, code[:1]); return x },
		"SyndromeOf":             func() []int64 { x, _ := impl.SyndromeOf(s, given, 5); return x },
		"WeightCounts":           func() []int64 { x, _ := impl.WeightCounts(s, code); return x },
		"DualCounts":             func() []int64 { x, _ := impl.DualCounts(s, code); return x },
		"LeadersOf":              func() []int64 { x, _ := impl.LeadersOf(s, code); return x },
		"LeadersOf the word 0":   func() []int64 { x, _ := impl.LeadersOf(s, code[:1]); return x },
	}
	for name, call := range calls {
		checkNewMemory(t, name, func() []int64 {
			x := call()
			fill(x[len(x):])
			return x
		})
		if !slices.Equal(s.Sizes, []int64{3, 3, 3}) || !slices.Equal(code, []int64{0, 13, 26}) || !slices.Equal(given, []int64{13}) {
			t.Errorf("%s gives out its arguments", name)
		}
	}
}

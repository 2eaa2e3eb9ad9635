package tests

import (
	"math"
	"slices"
	"testing"

	"loop.example/g01411/impl"
)

// answer is what a call returns: whether all results beside the error code are zero values, and
// the error code.
type answer struct {
	zero bool
	code int64
}

func number(x int64, code int64) answer { return answer{x == 0, code} }
func list(x []int64, code int64) answer { return answer{len(x) == 0, code} }
func text(x string, code int64) answer  { return answer{x == "", code} }
func yesOrNo(x bool, code int64) answer { return answer{!x, code} }
func fails(t *testing.T, name string, got answer, want int64) {
	t.Helper()
	if !got.zero || got.code != want {
		t.Errorf("%s: zero values %v, code %d instead of %d", name, got.zero, got.code, want)
	}
}

func TestNoSpace(t *testing.T) {
	// Beside something that is no space, the other arguments do not count.
	for _, s := range noSpaces() {
		for _, w := range []int64{0, 1, -1, 1024, math.MinInt64, math.MaxInt64} {
			fails(t, "DigitsOf", list(impl.DigitsOf(s, w)), impl.ErrInvalid)
			fails(t, "WeightOf", number(impl.WeightOf(s, w)), impl.ErrInvalid)
			fails(t, "OppositeWord", number(impl.OppositeWord(s, w)), impl.ErrInvalid)
			fails(t, "DistanceOf", number(impl.DistanceOf(s, w, 0)), impl.ErrInvalid)
			fails(t, "SumOfWords", number(impl.SumOfWords(s, 0, w)), impl.ErrInvalid)
			fails(t, "BallOf", list(impl.BallOf(s, w, 1)), impl.ErrInvalid)
			fails(t, "BallOf", list(impl.BallOf(s, 0, w)), impl.ErrInvalid)
			fails(t, "SphereOf", list(impl.SphereOf(s, w, 0)), impl.ErrInvalid)
			fails(t, "SphereOf", list(impl.SphereOf(s, 0, w)), impl.ErrInvalid)
			fails(t, "BallSize", number(impl.BallSize(s, w)), impl.ErrInvalid)
			fails(t, "ChangeDigit", number(impl.ChangeDigit(s, w, 0, 0)), impl.ErrInvalid)
			fails(t, "ChangeDigit", number(impl.ChangeDigit(s, 0, w, w)), impl.ErrInvalid)
			fails(t, "ShiftCode", list(impl.ShiftCode(s, []int64{0}, w)), impl.ErrInvalid)
		}
		fails(t, "CountWords", number(impl.CountWords(s)), impl.ErrInvalid)
		fails(t, "SpaceText", text(impl.SpaceText(s)), impl.ErrInvalid)
		for _, code := range [][]int64{nil, {0}, {0, 1}, {1, 0}, {-1}, {5000}, {0, 0, 0}} {
			fails(t, "WordOf", number(impl.WordOf(s, code)), impl.ErrInvalid)
			fails(t, "IsCode", yesOrNo(impl.IsCode(s, code)), impl.ErrInvalid)
			fails(t, "LeastDistance", number(impl.LeastDistance(s, code)), impl.ErrInvalid)
			fails(t, "DistanceCounts", list(impl.DistanceCounts(s, code)), impl.ErrInvalid)
			fails(t, "ShiftCode", list(impl.ShiftCode(s, code, -1)), impl.ErrInvalid)
			fails(t, "OppositeCode", list(impl.OppositeCode(s, code)), impl.ErrInvalid)
			fails(t, "CodeText", text(impl.CodeText(s, code)), impl.ErrInvalid)
		}
		for _, line := range []string{"", "0", "00", "0,1", "x"} {
			fails(t, "ParseCode", list(impl.ParseCode(s, line)), impl.ErrInvalid)
		}
	}
}

func TestNoWord(t *testing.T) {
	for _, s := range append(smallSpaces(t), largeSpaces(t)...) {
		n, _ := impl.CountWords(s)
		for _, w := range []int64{-1, n, n + 1, -n, 1 << 32, math.MinInt64, math.MaxInt64} {
			fails(t, "DigitsOf", list(impl.DigitsOf(s, w)), impl.ErrRange)
			fails(t, "WeightOf", number(impl.WeightOf(s, w)), impl.ErrRange)
			fails(t, "OppositeWord", number(impl.OppositeWord(s, w)), impl.ErrRange)
			fails(t, "DistanceOf", number(impl.DistanceOf(s, w, 0)), impl.ErrRange)
			fails(t, "DistanceOf", number(impl.DistanceOf(s, 0, w)), impl.ErrRange)
			fails(t, "SumOfWords", number(impl.SumOfWords(s, w, 1)), impl.ErrRange)
			fails(t, "SumOfWords", number(impl.SumOfWords(s, 1, w)), impl.ErrRange)
			fails(t, "BallOf", list(impl.BallOf(s, w, 1)), impl.ErrRange)
			fails(t, "SphereOf", list(impl.SphereOf(s, w, 1)), impl.ErrRange)
			fails(t, "ChangeDigit", number(impl.ChangeDigit(s, w, 0, 1)), impl.ErrRange)
			fails(t, "ShiftCode", list(impl.ShiftCode(s, []int64{0, 1}, w)), impl.ErrRange)
			fails(t, "ShiftCode", list(impl.ShiftCode(s, nil, w)), impl.ErrRange)
		}
	}
}

func TestNoRadius(t *testing.T) {
	for _, s := range append(smallSpaces(t), largeSpaces(t)...) {
		for _, r := range []int64{-1, impl.MaxPlaces + 1, math.MinInt64, math.MaxInt64} {
			fails(t, "BallOf", list(impl.BallOf(s, 1, r)), impl.ErrRange)
			fails(t, "SphereOf", list(impl.SphereOf(s, 1, r)), impl.ErrRange)
			fails(t, "BallSize", number(impl.BallSize(s, r)), impl.ErrRange)
		}
	}
}

func TestNoDigits(t *testing.T) {
	s := space(t, 2, 3, 4)
	for _, digits := range [][]int64{
		nil, {0}, {1, 1}, {1, 1, 1, 0}, {2, 0, 0}, {0, 3, 0}, {0, 0, 4}, {-1, 0, 0}, {0, -1, 0}, {0, 0, -1},
		{math.MinInt64, 0, 0}, {0, math.MaxInt64, 0}, make([]int64, 4), make([]int64, 9),
	} {
		fails(t, "WordOf", number(impl.WordOf(s, digits)), impl.ErrRange)
	}
	for _, c := range [][2]int64{
		{-1, 0}, {3, 0}, {8, 0}, {math.MinInt64, 0}, {math.MaxInt64, 0}, {0, -1}, {0, 2}, {1, 3}, {2, 4},
		{2, math.MinInt64}, {2, math.MaxInt64},
	} {
		fails(t, "ChangeDigit", number(impl.ChangeDigit(s, 23, c[0], c[1])), impl.ErrRange)
	}
}

func TestNoCode(t *testing.T) {
	for _, s := range append(smallSpaces(t), largeSpaces(t)...) {
		n, _ := impl.CountWords(s)
		for _, code := range noCodes(n) {
			fails(t, "LeastDistance", number(impl.LeastDistance(s, code)), impl.ErrRange)
			fails(t, "DistanceCounts", list(impl.DistanceCounts(s, code)), impl.ErrRange)
			fails(t, "ShiftCode", list(impl.ShiftCode(s, code, 1)), impl.ErrRange)
			fails(t, "OppositeCode", list(impl.OppositeCode(s, code)), impl.ErrRange)
			fails(t, "CodeText", text(impl.CodeText(s, code)), impl.ErrRange)
		}
	}
}

func TestArgumentsStayAsTheyAre(t *testing.T) {
	sizes, words := []int64{3, 2, 4}, []int64{1, 5, 9, 22}
	digits := []int64{2, 0, 3}
	s := impl.Space{Sizes: withSpare(sizes)}
	code, place := withSpare(words), withSpare(digits)
	impl.IsSpace(s)
	impl.CountWords(s)
	impl.DigitsOf(s, 3)
	impl.WordOf(s, place)
	impl.DistanceOf(s, 3, 4)
	impl.BallOf(s, 3, 2)
	impl.SphereOf(s, 3, 2)
	impl.BallSize(s, 2)
	impl.WeightOf(s, 3)
	impl.SumOfWords(s, 3, 4)
	impl.OppositeWord(s, 3)
	impl.ChangeDigit(s, 3, 1, 1)
	impl.IsCode(s, code)
	impl.LeastDistance(s, code)
	impl.DistanceCounts(s, code)
	impl.ShiftCode(s, code, 7)
	impl.OppositeCode(s, code)
	impl.SpaceText(s)
	impl.CodeText(s, code)
	impl.ParseCode(s, "000,213")
	if !isUntouched(s.Sizes, sizes) || !isUntouched(code, words) || !isUntouched(place, digits) {
		t.Errorf("arguments are changed: %v, %v, %v", s, code, place)
	}
}

func TestResultsAreNewMemory(t *testing.T) {
	s, code := space(t, 3, 2, 4), []int64{1, 5, 9, 22}
	calls := map[string]func() []int64{
		"DigitsOf":       func() []int64 { x, _ := impl.DigitsOf(s, 23); return x },
		"BallOf":         func() []int64 { x, _ := impl.BallOf(s, 3, 1); return x },
		"SphereOf":       func() []int64 { x, _ := impl.SphereOf(s, 3, 1); return x },
		"DistanceCounts": func() []int64 { x, _ := impl.DistanceCounts(s, code); return x },
		"ShiftCode":      func() []int64 { x, _ := impl.ShiftCode(s, code, 0); return x },
		"OppositeCode":   func() []int64 { x, _ := impl.OppositeCode(s, code); return x },
		"ParseSpace":     func() []int64 { x, _ := impl.ParseSpace("324"); return x.Sizes },
		"ParseCode":      func() []int64 { x, _ := impl.ParseCode(s, "001,101"); return x },
	}
	for name, call := range calls {
		checkNewMemory(t, name, call)
		if !slices.Equal(s.Sizes, []int64{3, 2, 4}) || !slices.Equal(code, []int64{1, 5, 9, 22}) {
			t.Errorf("%s gives out its arguments", name)
		}
	}
}

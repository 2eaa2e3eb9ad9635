package tests

import (
	"slices"
	"testing"

	"loop.example/g01411/impl"
)

// product finds the rest by the size of the sum of the products of the digits of two words.
func (x plainSpace) product(u int64, w int64) int64 {
	sum := int64(0)
	for i, d := range x.lists[u] {
		sum += d * x.lists[w][i]
	}
	return sum % x.size
}

// dual finds all words that are upright to all of a list.
func (x plainSpace) dual(words []int64) []int64 {
	code := []int64{}
	for w := range int64(len(x.lists)) {
		if !slices.ContainsFunc(words, func(u int64) bool { return x.product(u, w) != 0 }) {
			code = append(code, w)
		}
	}
	return code
}

// someWords are all words of a small space, and some of a large one.
func (x plainSpace) someWords() []int64 {
	n := int64(len(x.lists))
	if n <= 27 {
		return upTo(n)
	}
	words := []int64{0, 1, 2, n / 2, n - 2, n - 1}
	for w := int64(3); w < n-2; w += 7 + w%11 {
		words = append(words, w)
	}
	return words
}

// Dual codes of dual codes are the codes, and the dimensions of both add up to the number of places.
func TestDualCodes(t *testing.T) {
	for _, c := range linearCases(t) {
		dual, err := impl.DualCode(c.space, c.code)
		checkCode(t, "DualCode", dual, err, c.dual(c.code))
		checkLinear(t, c.space, dual, true)
		again, err := impl.DualCode(c.space, dual)
		checkCode(t, "DualCode of a dual code", again, err, c.code)
		k, _ := impl.DimensionOf(c.space, c.code)
		m, err := impl.DimensionOf(c.space, dual)
		if k+m != int64(len(c.space.Sizes)) || err != impl.ErrNone {
			t.Errorf("%v, %v: the dimensions are %d and %d, %d", c.space, c.code, k, m, err)
		}
	}
}

func TestDualCodesOfZeroAndOfAll(t *testing.T) {
	for _, x := range append(smallPlainSpaces(t), largePlainSpaces(t)...) {
		n := int64(len(x.lists))
		dual, err := impl.DualCode(x.space, []int64{0})
		checkCode(t, "DualCode of the word 0", dual, err, upTo(n))
		dual, err = impl.DualCode(x.space, upTo(n))
		checkCode(t, "DualCode of all words", dual, err, []int64{0})
	}
}

func isZero(list []int64) bool {
	return !slices.ContainsFunc(list, func(x int64) bool { return x != 0 })
}

// Syndromes are zero just for the words of the dual code of the span of the checks.
func TestSyndromes(t *testing.T) {
	for _, x := range append(smallPlainSpaces(t), largePlainSpaces(t)...) {
		for _, checks := range x.wordLists() {
			dual, _ := impl.DualCode(x.space, x.span(checks))
			for _, w := range x.someWords() {
				want := []int64{}
				for _, u := range checks {
					want = append(want, x.product(u, w))
				}
				syndrome, err := impl.SyndromeOf(x.space, checks, w)
				checkCode(t, "SyndromeOf", syndrome, err, want)
				if isZero(syndrome) != slices.Contains(dual, w) {
					t.Errorf("SyndromeOf(%v, %v, %d) = %v, but the dual code is %v", x.space, checks, w, syndrome, dual)
				}
			}
		}
	}
}

// Words are in one class just if they have equal syndromes by a basis of the dual code.
func TestSyndromesTellClasses(t *testing.T) {
	for _, c := range linearCases(t) {
		dual, _ := impl.DualCode(c.space, c.code)
		checks, _ := impl.LeastBasis(c.space, dual)
		class, _ := impl.ShiftCode(c.space, c.code, int64(len(c.lists)/2))
		want, _ := impl.SyndromeOf(c.space, checks, int64(len(c.lists)/2))
		for _, w := range c.someWords() {
			syndrome, err := impl.SyndromeOf(c.space, checks, w)
			if slices.Equal(syndrome, want) != slices.Contains(class, w) || err != impl.ErrNone {
				t.Errorf("SyndromeOf(%v, %v, %d) = %v, %d, but the class of %v is %v", c.space, checks, w, syndrome, err, want, class)
			}
		}
	}
}

// weightOf counts the digits other than 0.
func weightOf(digits []int64) int64 {
	return apart(digits, make([]int64, len(digits)))
}

// weightsByHand counts the words of each weight.
func weightsByHand(s impl.Space, code []int64) []int64 {
	counts := make([]int64, len(s.Sizes)+1)
	for _, digits := range digitsOfCode(s, code) {
		counts[weightOf(digits)]++
	}
	return counts
}

func sumOf(list []int64) int64 {
	sum := int64(0)
	for _, x := range list {
		sum += x
	}
	return sum
}

// Weights are counted in all spaces and of all codes, plain and linear ones or not.
func TestWeightCounts(t *testing.T) {
	for _, c := range coverCases(t) {
		counts, err := impl.WeightCounts(c.space, c.code)
		checkCode(t, "WeightCounts", counts, err, weightsByHand(c.space, c.code))
		if sumOf(counts) != int64(len(c.code)) {
			t.Errorf("WeightCounts(%v, %v) = %v does not add up", c.space, c.code, counts)
		}
	}
	for _, s := range notPlainSpaces(t) {
		for _, code := range someCodes(s) {
			counts, err := impl.WeightCounts(s, code)
			checkCode(t, "WeightCounts", counts, err, weightsByHand(s, code))
		}
	}
}

// choose counts the ways to choose k of n things.
func choose(n int64, k int64) int64 {
	if k < 0 || k > n {
		return 0
	}
	ways := int64(1)
	for i := range k {
		ways = ways * (n - i) / (i + 1)
	}
	return ways
}

// power multiplies x with itself.
func power(x int64, k int64) int64 {
	product := int64(1)
	for range k {
		product *= x
	}
	return product
}

// dualCountsByCounts finds the counts of the dual code from those of the code alone: over all words
// of the weight j, the sum of the signs that they give to a word of the weight i is that in the loop.
func (c linearCase) dualCountsByCounts(counts []int64) []int64 {
	n := int64(len(c.space.Sizes))
	dual := make([]int64, n+1)
	for j := range dual {
		for i, count := range counts {
			for m := range int64(j) + 1 {
				dual[j] += count * power(-1, m) * power(c.size-1, int64(j)-m) * choose(int64(i), m) * choose(n-int64(i), int64(j)-m)
			}
		}
		dual[j] /= int64(len(c.code))
	}
	return dual
}

// Counts of dual codes are those of the dual codes, and are told by the counts of the codes.
func TestDualCounts(t *testing.T) {
	for _, c := range linearCases(t) {
		counts, err := impl.DualCounts(c.space, c.code)
		checkCode(t, "DualCounts", counts, err, weightsByHand(c.space, c.dual(c.code)))
		checkCode(t, "DualCounts by counts", counts, err, c.dualCountsByCounts(weightsByHand(c.space, c.code)))
		dual, _ := impl.DualCode(c.space, c.code)
		want, _ := impl.WeightCounts(c.space, dual)
		checkCode(t, "DualCounts", counts, err, want)
		if sumOf(counts)*int64(len(c.code)) != int64(len(c.lists)) {
			t.Errorf("DualCounts(%v, %v) = %v does not add up", c.space, c.code, counts)
		}
	}
}

func TestSyndromesWrittenOut(t *testing.T) {
	for _, c := range []struct {
		sizes, checks []int64
		w             int64
		want          []int64
	}{
		{[]int64{2}, nil, 1, nil}, {[]int64{2}, []int64{1, 0, 1}, 1, []int64{1, 0, 1}}, {[]int64{3}, []int64{2, 1}, 2, []int64{1, 2}},
		{[]int64{3, 3}, []int64{8, 8, 5, 7, 0}, 8, []int64{2, 2, 0, 0, 0}},
		{[]int64{2, 2, 2, 2, 2, 2, 2}, []int64{15, 51, 85}, 1, []int64{1, 1, 1}},
		{[]int64{2, 2, 2, 2, 2, 2, 2}, []int64{85, 51, 15}, 64, []int64{1, 0, 0}},
		{[]int64{2, 2, 2, 2, 2, 2, 2}, []int64{15, 51, 85}, 127, []int64{0, 0, 0}},
		{[]int64{3, 3, 3, 3, 3, 3}, []int64{364, 728}, 728, []int64{0, 0}},
		{[]int64{3, 3, 3, 3, 3, 3}, []int64{364, 728}, 727, []int64{2, 1}},
	} {
		syndrome, err := impl.SyndromeOf(space(t, c.sizes...), c.checks, c.w)
		checkCode(t, "SyndromeOf", syndrome, err, c.want)
	}
}

package tests

import (
	"slices"
	"testing"

	"loop.example/g01411/impl"
)

// plainSpace is a plain space with the digits of its words, and with the sums of each two words.
type plainSpace struct {
	space impl.Space
	size  int64
	lists [][]int64
	sums  [][]int64
}

// newPlainSpace adds the digits of each two words by hand.
func newPlainSpace(t *testing.T, size int64, places int) plainSpace {
	t.Helper()
	s := space(t, slices.Repeat([]int64{size}, places)...)
	x := plainSpace{space: s, size: size, lists: digitLists(s.Sizes)}
	for _, first := range x.lists {
		row := []int64{}
		for _, second := range x.lists {
			sum := int64(0)
			for i := range first {
				sum = sum*size + (first[i]+second[i])%size
			}
			row = append(row, sum)
		}
		x.sums = append(x.sums, row)
	}
	return x
}

// smallPlainSpaces have few enough words for all their linear codes.
func smallPlainSpaces(t *testing.T) []plainSpace {
	return []plainSpace{
		newPlainSpace(t, 2, 1), newPlainSpace(t, 3, 1), newPlainSpace(t, 2, 2), newPlainSpace(t, 3, 2),
		newPlainSpace(t, 2, 3), newPlainSpace(t, 2, 4), newPlainSpace(t, 3, 3),
	}
}

// largePlainSpaces have MaxPlaces places of the size 2, 6 places of the size 3, and some less.
func largePlainSpaces(t *testing.T) []plainSpace {
	return []plainSpace{
		newPlainSpace(t, 2, 7), newPlainSpace(t, 2, impl.MaxPlaces), newPlainSpace(t, 3, 4), newPlainSpace(t, 3, 6),
	}
}

// notPlainSpaces have different sizes, or the size 4.
func notPlainSpaces(t *testing.T) []impl.Space {
	return []impl.Space{
		space(t, 4), space(t, 4, 4), space(t, 4, 4, 4, 4, 4),
		space(t, 2, 3), space(t, 3, 2), space(t, 2, 4), space(t, 4, 2), space(t, 3, 4), space(t, 4, 3),
		space(t, 2, 2, 3), space(t, 2, 3, 2), space(t, 3, 2, 2), space(t, 2, 3, 4), space(t, 4, 3, 2),
		space(t, 2, 2, 2, 2, 2, 2, 2, 3), space(t, 3, 2, 2, 2, 2, 2, 2, 2), space(t, 3, 3, 3, 3, 3, 4), space(t, 4, 2, 2, 2, 2, 2, 2, 4),
	}
}

// isLinear asks for the word 0 and for the sum of any two words.
func (x plainSpace) isLinear(code []int64) bool {
	isIn := make([]bool, len(x.lists))
	for _, w := range code {
		isIn[w] = true
	}
	for _, u := range code {
		for _, w := range code {
			if !isIn[x.sums[u][w]] {
				return false
			}
		}
	}
	return isIn[0]
}

// span adds the words to each other, from the word 0 on, as long as there are new sums.
func (x plainSpace) span(words []int64) []int64 {
	isIn := make([]bool, len(x.lists))
	isIn[0] = true
	found := []int64{0}
	for k := 0; k < len(found); k++ {
		for _, w := range words {
			if sum := x.sums[found[k]][w]; !isIn[sum] {
				isIn[sum] = true
				found = append(found, sum)
			}
		}
	}
	slices.Sort(found)
	return found
}

// linearCodes are all linear codes of a small space: each comes from one of fewer words by a word.
func (x plainSpace) linearCodes() [][]int64 {
	codes := [][]int64{{0}}
	for k := 0; k < len(codes); k++ {
		for w := range x.lists {
			code := x.span(append(slices.Clone(codes[k]), int64(w)))
			if !slices.ContainsFunc(codes, func(other []int64) bool { return slices.Equal(other, code) }) {
				codes = append(codes, code)
			}
		}
	}
	return codes
}

// wordLists are lists of up to 20 words in some order: of none, of one, with equal ones, with 0.
func (x plainSpace) wordLists() [][]int64 {
	n := int64(len(x.lists))
	lists := [][]int64{
		nil, {}, {0}, {n - 1}, {n / 2}, {1, 0}, {n - 1, n - 1}, {n - 1, 0, n - 1}, {n / 2, 1, n / 3, 1},
		make([]int64, 20), slices.Repeat([]int64{n - 1, 1}, 10),
	}
	for count := range int64(21) {
		list := []int64{}
		for k := range count {
			list = append(list, (k*k*count+7*k+5*count+n/2)%n)
		}
		lists = append(lists, list)
	}
	return lists
}

// linearCase is a linear code of a plain space.
type linearCase struct {
	plainSpace
	code []int64
}

// linearCases are all linear codes of the small spaces, and of the large ones some, among them the
// code of the word 0 alone, the code of all words, and some of each dimension.
func linearCases(t *testing.T) []linearCase {
	cases := []linearCase{}
	for _, x := range smallPlainSpaces(t) {
		for _, code := range x.linearCodes() {
			cases = append(cases, linearCase{x, code})
		}
	}
	for _, x := range largePlainSpaces(t) {
		n := int64(len(x.lists))
		for places := range len(x.space.Sizes) + 1 {
			list := []int64{}
			for k := range int64(places) {
				list = append(list, (k*k*k+11*k+n/2)*(k+3)%n)
			}
			cases = append(cases, linearCase{x, x.span(list)}, linearCase{x, x.span(x.powers()[:places])})
		}
		cases = append(cases, linearCase{x, x.span([]int64{n - 1})}, linearCase{x, upTo(n)})
	}
	return cases
}

// powers are the words with one digit 1, and 0 at the other places.
func (x plainSpace) powers() []int64 {
	powers := []int64{}
	for w := int64(1); w < int64(len(x.lists)); w *= x.size {
		powers = append(powers, w)
	}
	return powers
}

// dimension finds how often the size is a factor of the number of words.
func (c linearCase) dimension() int64 {
	k, words := int64(0), int64(1)
	for words < int64(len(c.code)) {
		k, words = k+1, words*c.size
	}
	return k
}

// The tests below would miss much if the linear codes were few.
func TestLinearCasesAreAll(t *testing.T) {
	for k, count := range []int{2, 2, 5, 6, 16, 67, 28} {
		if codes := smallPlainSpaces(t)[k].linearCodes(); len(codes) != count {
			t.Errorf("%d linear codes instead of %d", len(codes), count)
		}
	}
	found := map[[3]int64]int{}
	for _, c := range linearCases(t) {
		if !c.isLinear(c.code) {
			t.Errorf("%v, %v is not linear", c.space, c.code)
		}
		found[[3]int64{c.size, int64(len(c.space.Sizes)), c.dimension()}]++
	}
	for _, x := range append(smallPlainSpaces(t), largePlainSpaces(t)...) {
		places := int64(len(x.space.Sizes))
		for k := range places + 1 {
			if found[[3]int64{x.size, places, k}] == 0 {
				t.Errorf("%v: no linear code of the dimension %d", x.space, k)
			}
		}
	}
}

func TestPlainSpaces(t *testing.T) {
	for _, x := range append(smallPlainSpaces(t), largePlainSpaces(t)...) {
		if yes, err := impl.IsPlain(x.space); !yes || err != impl.ErrNone {
			t.Errorf("IsPlain(%v) = %v, %d", x.space, yes, err)
		}
	}
	for _, s := range notPlainSpaces(t) {
		if yes, err := impl.IsPlain(s); yes || err != impl.ErrNone {
			t.Errorf("IsPlain(%v) = %v, %d", s, yes, err)
		}
	}
	for _, s := range soughtSpaces(t) {
		q := s.Sizes[0]
		want := q != 4 && slices.Min(s.Sizes) == q && slices.Max(s.Sizes) == q
		if yes, err := impl.IsPlain(s); yes != want || err != impl.ErrNone {
			t.Errorf("IsPlain(%v) = %v, %d", s, yes, err)
		}
	}
}

func checkLinear(t *testing.T, s impl.Space, code []int64, want bool) {
	t.Helper()
	if yes, err := impl.IsLinear(s, code); yes != want || err != impl.ErrNone {
		t.Errorf("IsLinear(%v, %v) = %v, %d", s, code, yes, err)
	}
}

// All codes of the spaces of up to 16 words are held against the sums of any two words.
func TestWhichCodesAreLinear(t *testing.T) {
	for _, x := range smallPlainSpaces(t) {
		if len(x.lists) > 16 {
			continue
		}
		count := 0
		for _, code := range allCodes(int64(len(x.lists))) {
			want := x.isLinear(code)
			checkLinear(t, x.space, code, want)
			if want {
				count++
			}
		}
		if count != len(x.linearCodes()) {
			t.Errorf("%v: %d linear codes", x.space, count)
		}
	}
}

// A word less, a word more, or another one instead: most such codes are not linear any more.
func TestCodesThatAreNearlyLinear(t *testing.T) {
	for _, c := range linearCases(t) {
		checkLinear(t, c.space, c.code, true)
		k := len(c.code) / 2
		fewer := slices.Delete(slices.Clone(c.code), k, k+1)
		checkLinear(t, c.space, fewer, c.isLinear(fewer))
		checkLinear(t, c.space, c.code[1:], false)
		for w := range int64(len(c.lists)) {
			if !slices.Contains(c.code, w) {
				more := slices.Sorted(slices.Values(append(slices.Clone(c.code), w)))
				checkLinear(t, c.space, more, c.isLinear(more))
				other := slices.Sorted(slices.Values(append(slices.Clone(fewer), w)))
				checkLinear(t, c.space, other, c.isLinear(other))
				break
			}
		}
	}
}

func TestNoCodeOfOtherSpacesIsLinear(t *testing.T) {
	for _, s := range notPlainSpaces(t) {
		for _, code := range someCodes(s) {
			checkLinear(t, s, code, false)
		}
	}
}

func checkSpan(t *testing.T, x plainSpace, words []int64) {
	t.Helper()
	span, err := impl.SpanOf(x.space, words)
	checkCode(t, "SpanOf", span, err, x.span(words))
	if err != impl.ErrNone {
		return
	}
	checkLinear(t, x.space, span, true)
	for _, w := range words {
		if !slices.Contains(span, w) {
			t.Errorf("SpanOf(%v, %v) = %v lacks %d", x.space, words, span, w)
		}
	}
}

// Spans are linear and have the words they are made of; no linear code of fewer words has them.
func TestSpans(t *testing.T) {
	for _, x := range append(smallPlainSpaces(t), largePlainSpaces(t)...) {
		for _, words := range x.wordLists() {
			checkSpan(t, x, words)
			turned := slices.Clone(words)
			slices.Reverse(turned)
			checkSpan(t, x, turned)
		}
	}
}

// All lists of two words and of three words, in all orders and with equal ones.
func TestSpansOfFewWords(t *testing.T) {
	for _, x := range smallPlainSpaces(t) {
		n := int64(len(x.lists))
		for u := range n {
			for v := range n {
				checkSpan(t, x, []int64{u, v})
				for w := v % 3; w < n && n < 20; w++ {
					checkSpan(t, x, []int64{u, v, w})
				}
			}
		}
	}
}

// The span of no other linear code that has the words is less.
func TestSpansAreLeast(t *testing.T) {
	for _, x := range smallPlainSpaces(t) {
		codes := x.linearCodes()
		for _, words := range x.wordLists() {
			span, _ := impl.SpanOf(x.space, words)
			for _, code := range codes {
				if hasAll(code, words) && !hasAll(code, span) {
					t.Errorf("SpanOf(%v, %v) = %v, but the words are in %v", x.space, words, span, code)
				}
			}
		}
	}
}

// hasAll reports whether a code has all words of a list.
func hasAll(code []int64, words []int64) bool {
	return !slices.ContainsFunc(words, func(w int64) bool { return !slices.Contains(code, w) })
}

func TestSpansOfLinearCodesAreThemselves(t *testing.T) {
	for _, c := range linearCases(t) {
		if len(c.code) <= 20 {
			checkSpan(t, c.plainSpace, c.code)
			span, err := impl.SpanOf(c.space, c.code)
			checkCode(t, "SpanOf a linear code", span, err, c.code)
		}
	}
}

func TestDimensions(t *testing.T) {
	for _, c := range linearCases(t) {
		if k, err := impl.DimensionOf(c.space, c.code); k != c.dimension() || err != impl.ErrNone {
			t.Errorf("DimensionOf(%v, %v) = %d, %d instead of %d", c.space, c.code, k, err, c.dimension())
		}
	}
}

func TestDimensionsOfSpans(t *testing.T) {
	for _, x := range append(smallPlainSpaces(t), largePlainSpaces(t)...) {
		for _, words := range x.wordLists() {
			span, _ := impl.SpanOf(x.space, words)
			want := linearCase{x, x.span(words)}.dimension()
			if k, err := impl.DimensionOf(x.space, span); k != want || k > int64(len(words)) || err != impl.ErrNone {
				t.Errorf("DimensionOf(%v, %v) = %d, %d instead of %d", x.space, span, k, err, want)
			}
		}
	}
}

// firstPlace finds the place of the first digit other than 0, or -1.
func (x plainSpace) firstPlace(w int64) int {
	return slices.IndexFunc(x.lists[w], func(d int64) bool { return d != 0 })
}

// isLeastBasis asks for what the document says of the words of the least basis.
func (c linearCase) isLeastBasis(words []int64) bool {
	last := -1
	for _, w := range words {
		i := c.firstPlace(w)
		if i <= last || c.lists[w][i] != 1 || !slices.Contains(c.code, w) {
			return false
		}
		last = i
		for _, u := range words {
			if u != w && c.lists[u][i] != 0 {
				return false
			}
		}
	}
	return int64(len(words)) == c.dimension()
}

func TestLeastBases(t *testing.T) {
	for _, c := range linearCases(t) {
		basis, err := impl.LeastBasis(c.space, c.code)
		if !c.isLeastBasis(basis) || err != impl.ErrNone {
			t.Errorf("LeastBasis(%v, %v) = %v, %d", c.space, c.code, basis, err)
			continue
		}
		span, err := impl.SpanOf(c.space, basis)
		checkCode(t, "SpanOf a least basis", span, err, c.code)
		if k, _ := impl.DimensionOf(c.space, c.code); k != int64(len(basis)) {
			t.Errorf("LeastBasis(%v, %v) = %v, but the dimension is %d", c.space, c.code, basis, k)
		}
	}
}

// leastBases tries all lists of words of a code that begin with the given ones.
func (c linearCase) leastBases(words []int64) [][]int64 {
	if int64(len(words)) == c.dimension() {
		if c.isLeastBasis(words) {
			return [][]int64{slices.Clone(words)}
		}
		return nil
	}
	found := [][]int64{}
	for _, w := range c.code {
		found = append(found, c.leastBases(append(slices.Clone(words), w))...)
	}
	return found
}

// There is just one such list.
func TestLeastBasesAreTheOnlyOnes(t *testing.T) {
	for _, c := range linearCases(t) {
		if len(c.lists) > 16 && c.dimension() > 2 || len(c.code) > 81 {
			continue
		}
		lists := c.leastBases(nil)
		basis, _ := impl.LeastBasis(c.space, c.code)
		if len(lists) != 1 || !slices.Equal(lists[0], basis) {
			t.Errorf("LeastBasis(%v, %v) = %v, by hand %v", c.space, c.code, basis, lists)
		}
	}
}

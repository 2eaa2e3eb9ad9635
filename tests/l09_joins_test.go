package tests

import (
	"slices"
	"testing"

	"loop.example/g01411/impl"
)

// joinedByHand holds the last digit of each word of a code against the first one of each word of another
// code, and puts the digits together.
func joinedByHand(s impl.Space, code []int64, x impl.Space, other []int64) ([]int64, []int64) {
	last := len(s.Sizes) - 1
	sizes, lists := slices.Concat(s.Sizes, x.Sizes[1:]), [][]int64{}
	for _, first := range digitsOfCode(s, code) {
		for _, second := range digitsOfCode(x, other) {
			if first[last] == second[0] {
				lists = append(lists, slices.Concat(first, second[1:]))
			}
		}
	}
	return sizes, codeByHand(sizes, lists)
}

// countPairs adds up, over the signs of the place in common, the products of the numbers of words.
func countPairs(s impl.Space, code []int64, x impl.Space, other []int64) int {
	last, count := len(s.Sizes)-1, 0
	for d := range x.Sizes[0] {
		first := wordsAt(s, code, last, d)
		count += first * wordsAt(x, other, 0, d)
	}
	return count
}

// wordsAt counts the words of a code that have a sign at a place.
func wordsAt(s impl.Space, code []int64, i int, d int64) int {
	count := 0
	for _, digits := range digitsOfCode(s, code) {
		if digits[i] == d {
			count++
		}
	}
	return count
}

func checkJoined(t *testing.T, s impl.Space, code []int64, x impl.Space, other []int64) {
	t.Helper()
	sizes, want := joinedByHand(s, code, x, other)
	joined, words, err := impl.JoinOverPlace(s, code, x, other)
	checkBuilt(t, "JoinOverPlace", joined, words, err, sizes, want)
	if len(joined.Sizes) != len(s.Sizes)+len(x.Sizes)-1 || len(words) != countPairs(s, code, x, other) {
		t.Errorf("%v of %v and %v of %v: %d places, %d words", code, s, other, x, len(joined.Sizes), len(words))
	}
}

// joinCodes are all codes of a space of up to 6 words, and some of a greater one.
func joinCodes(s impl.Space) [][]int64 {
	if n, _ := impl.CountWords(s); n <= 6 {
		return allCodes(n)
	}
	return someCodes(s)
}

// Joined codes have all pairs of words that have the same sign at the place in common, each once.
func TestJoinedCodes(t *testing.T) {
	for _, s := range smallSpaces(t) {
		for _, x := range smallSpaces(t) {
			if s.Sizes[len(s.Sizes)-1] != x.Sizes[0] {
				continue
			}
			for _, code := range joinCodes(s) {
				for _, other := range joinCodes(x) {
					checkJoined(t, s, code, x, other)
				}
			}
		}
	}
}

// A second space of one place leaves the words that have one of its signs behind.
func TestJoinedOverTheOnlyPlace(t *testing.T) {
	for _, s := range append(smallSpaces(t), largeSpaces(t)...) {
		last := int64(len(s.Sizes) - 1)
		q := s.Sizes[last]
		one := space(t, q)
		for _, code := range someCodes(s) {
			for _, signs := range allCodes(q) {
				want := []int64{}
				for _, w := range code {
					if slices.Contains(signs, w%q) {
						want = append(want, w)
					}
				}
				joined, words, err := impl.JoinOverPlace(s, code, one, signs)
				checkBuilt(t, "JoinOverPlace", joined, words, err, s.Sizes, want)
			}
		}
	}
}

// joinLimits are spaces that are joined to one of just MaxPlaces places, or of just MaxWords words.
func joinLimits(t *testing.T) [][2]impl.Space {
	return [][2]impl.Space{
		{space(t, 2, 2, 2, 2, 2), space(t, 2, 2, 2, 2)}, {space(t, 2), space(t, 2, 2, 2, 2, 2, 2, 2, 2)},
		{space(t, 2, 2, 2, 2, 2, 2, 2, 2), space(t, 2)}, {space(t, 3, 2, 2, 3), space(t, 3, 2, 2, 2, 3)},
		{space(t, 4, 4, 4), space(t, 4, 4, 4)}, {space(t, 4), space(t, 4, 4, 4, 4, 4)}, {space(t, 4, 4, 4, 4, 4), space(t, 4)},
		{space(t, 4, 2, 2, 2), space(t, 2, 2, 2, 2, 4)}, {space(t, 4, 2, 2, 2, 2, 2, 2, 4), space(t, 4)},
	}
}

// fewCodes are codes of no word, of one, of two, of all, and of some.
func fewCodes(s impl.Space) [][]int64 {
	codes := someCodes(s)
	return append(codes[:6:6], codes[8])
}

func TestJoinedCodesAtTheLimits(t *testing.T) {
	places, words := 0, 0
	for _, c := range joinLimits(t) {
		for _, code := range fewCodes(c[0]) {
			for _, other := range fewCodes(c[1]) {
				checkJoined(t, c[0], code, c[1], other)
			}
		}
		joined, _, _ := impl.JoinOverPlace(c[0], nil, c[1], nil)
		if len(joined.Sizes) == impl.MaxPlaces {
			places++
		}
		if count, _ := impl.CountWords(joined); count == impl.MaxWords {
			words++
		}
	}
	if places == 0 || words == 0 {
		t.Errorf("%d spaces have MaxPlaces places, %d have MaxWords words", places, words)
	}
}

// Spaces that are joined to one of more places, or of more words.
func TestJoinedCodesBeyondTheLimits(t *testing.T) {
	for _, c := range [][2]impl.Space{
		{space(t, 2, 2, 2, 2, 2), space(t, 2, 2, 2, 2, 2)}, {space(t, 2, 2), space(t, 2, 2, 2, 2, 2, 2, 2, 2)},
		{space(t, 2, 2, 2, 2, 2, 2, 2, 2), space(t, 2, 2)}, {space(t, 2, 2, 2, 2, 2, 2, 2, 2), space(t, 2, 2, 2, 2, 2, 2, 2, 2)},
		{space(t, 4, 4, 4), space(t, 4, 4, 4, 2)}, {space(t, 4, 4), space(t, 4, 4, 4, 4, 4)}, {space(t, 4, 4, 4, 4, 4), space(t, 4, 2)},
		{space(t, 3, 3, 3, 3), space(t, 3, 4, 4)}, {space(t, 4, 4, 4, 4, 4), space(t, 4, 4, 4, 4, 4)},
	} {
		n, _ := impl.CountWords(c[0])
		m, _ := impl.CountWords(c[1])
		for _, code := range [][]int64{nil, {0}, upTo(n)} {
			for _, other := range [][]int64{nil, {m - 1}, upTo(m)} {
				fails(t, "JoinOverPlace", built(impl.JoinOverPlace(c[0], code, c[1], other)), impl.ErrLimit)
			}
			fails(t, "JoinOverPlace", built(impl.JoinOverPlace(c[0], code, c[1], []int64{m})), impl.ErrRange)
		}
		fails(t, "JoinOverPlace", built(impl.JoinOverPlace(c[0], []int64{n}, c[1], nil)), impl.ErrRange)
	}
}

// Codes that have each sign at the place in common, where it is fit for both, are joined to one whose
// radius is at most the sum of their radii: this is what norms are for.
func TestRadiiOfJoinedCodes(t *testing.T) {
	count := 0
	spaces := []impl.Space{space(t, 2, 2), space(t, 3, 2), space(t, 2, 3), space(t, 2, 2, 2), space(t, 3, 3), space(t, 4, 4), space(t, 2, 4)}
	for _, s := range spaces {
		for _, x := range spaces {
			last := len(s.Sizes) - 1
			for _, code := range codesFitAt(s, last) {
				for _, other := range codesFitAt(x, 0) {
					joined, words, err := impl.JoinOverPlace(s, code, x, other)
					if err == impl.ErrState {
						continue
					}
					count++
					radius, _ := impl.RadiusOf(joined, words)
					first, _ := impl.RadiusOf(s, code)
					second, _ := impl.RadiusOf(x, other)
					if radius > first+second || len(words) == 0 {
						t.Errorf("%v of %v and %v of %v have the radii %d and %d, and joined %d", code, s, other, x, first, second, radius)
					}
				}
			}
		}
	}
	if count == 0 {
		t.Errorf("no two codes are joined")
	}
}

// codesFitAt are some codes of a space for which a place is fit, and that have each sign there.
func codesFitAt(s impl.Space, i int) [][]int64 {
	codes, digits := [][]int64{}, digitLists(s.Sizes)
	for k, code := range sumCodes(s) {
		fit, _ := impl.FitPlaces(s, code)
		c := normCase{coverCase{space: s, code: code}, digits}
		if k%3 == 0 && !c.lacksSign(i) && slices.Contains(fit, int64(i)) {
			codes = append(codes, code)
		}
	}
	return codes
}

func TestJoinedCodesWrittenOut(t *testing.T) {
	for _, c := range []struct {
		sizes, code, others, other, joined, want []int64
	}{
		{[]int64{2, 2, 2}, []int64{0, 7}, []int64{2, 2}, []int64{0, 3}, []int64{2, 2, 2, 2}, []int64{0, 15}},
		{[]int64{2, 3}, []int64{0, 2, 4}, []int64{3, 4}, []int64{0, 3, 5, 9}, []int64{2, 3, 4}, []int64{0, 3, 9, 17}},
		{[]int64{2, 3}, []int64{0, 2, 4}, []int64{3}, []int64{1}, []int64{2, 3}, []int64{4}},
		{[]int64{3}, []int64{0, 2}, []int64{3, 2}, []int64{1, 2, 4, 5}, []int64{3, 2}, []int64{1, 4, 5}},
		{[]int64{4}, []int64{3}, []int64{4}, []int64{2, 3}, []int64{4}, []int64{3}},
		{[]int64{4}, []int64{3}, []int64{4}, []int64{2}, []int64{4}, nil},
	} {
		joined, words, err := impl.JoinOverPlace(impl.Space{Sizes: c.sizes}, c.code, impl.Space{Sizes: c.others}, c.other)
		checkBuilt(t, "JoinOverPlace", joined, words, err, c.joined, c.want)
	}
}

// isChainByHand asks for each word of each code whether it is in all codes that follow.
func isChainByHand(list [][]int64) bool {
	for k, code := range list {
		for _, next := range list[k:] {
			if !hasAll(next, code) {
				return false
			}
		}
	}
	return true
}

func checkChain(t *testing.T, s impl.Space, list [][]int64) bool {
	t.Helper()
	want := isChainByHand(list)
	if yes, err := impl.IsChain(s, list); yes != want || err != impl.ErrNone {
		t.Errorf("IsChain(%v, %v) = %v, %d", s, list, yes, err)
	}
	return want
}

// All lists of up to three codes of four words.
func TestChainsOfFewCodes(t *testing.T) {
	s, chains := space(t, 2, 2), 0
	checkChain(t, s, nil)
	checkChain(t, s, [][]int64{})
	codes := allCodes(4)
	for _, first := range codes {
		checkChain(t, s, [][]int64{first})
		for _, second := range codes {
			checkChain(t, s, [][]int64{first, second})
			for _, third := range codes {
				if checkChain(t, s, [][]int64{first, second, third}) {
					chains++
				}
			}
		}
	}
	// Each word is in none of the codes, or in one of them first.
	if chains != 4*4*4*4 {
		t.Errorf("%d chains", chains)
	}
}

// Chains of up to 10 codes, and lists that are none because of one word of one code.
func TestChainsOfManyCodes(t *testing.T) {
	for _, s := range append(smallSpaces(t), largeSpaces(t)...) {
		n, _ := impl.CountWords(s)
		for length := range int64(11) {
			growing, equal := [][]int64{}, [][]int64{}
			for k := range length {
				growing = append(growing, upTo(n)[n-n*k/10-1:])
				equal = append(equal, upTo(n))
			}
			if !checkChain(t, s, growing) || !checkChain(t, s, equal) || !checkChain(t, s, make([][]int64, length)) {
				t.Errorf("%v is no chain", growing)
			}
			for k := range len(growing) {
				broken := slices.Clone(growing)
				broken[k] = broken[k][:len(broken[k])-1]
				if checkChain(t, s, broken) != (k == 0) {
					t.Errorf("%v is a chain", broken)
				}
			}
		}
	}
}

func TestChainsWrittenOut(t *testing.T) {
	s := space(t, 2, 2, 2)
	for _, c := range []struct {
		list [][]int64
		want bool
	}{
		{nil, true}, {[][]int64{{}}, true}, {[][]int64{{3, 5}}, true}, {[][]int64{{0}, {0, 7}, {0, 3, 7}}, true},
		{[][]int64{{1}, {0, 7}}, false}, {[][]int64{{0, 7}, {0}}, false}, {[][]int64{{0, 7}, {}}, false}, {[][]int64{{}, {0}, {0}}, true},
		{[][]int64{{0}, {0, 1}, {1}}, false}, {[][]int64{{7}, {6}, {6, 7}}, false}, {[][]int64{nil, upTo(8), upTo(8)}, true},
	} {
		if yes, err := impl.IsChain(s, c.list); yes != c.want || err != impl.ErrNone {
			t.Errorf("IsChain(%v, %v) = %v, %d", s, c.list, yes, err)
		}
	}
}

package tests

import (
	"slices"
	"testing"

	"loop.example/g01411/impl"
)

// leaderOf finds the leader of the class of a word among the sums with all words of the code.
func (c linearCase) leaderOf(w int64) int64 {
	leader := w
	for _, u := range c.code {
		other := c.sums[u][w]
		far, least := weightOf(c.lists[other]), weightOf(c.lists[leader])
		if far < least || far == least && other < leader {
			leader = other
		}
	}
	return leader
}

// leaders finds the words that are the leaders of their classes.
func (c linearCase) leaders() []int64 {
	leaders := []int64{}
	for w := range int64(len(c.lists)) {
		if c.leaderOf(w) == w {
			leaders = append(leaders, w)
		}
	}
	return leaders
}

// Each class has a leader: there are as many as classes, and the shifts by them have all words.
func TestLeaders(t *testing.T) {
	for _, c := range linearCases(t) {
		leaders, err := impl.LeadersOf(c.space, c.code)
		checkCode(t, "LeadersOf", leaders, err, c.leaders())
		if len(leaders)*len(c.code) != len(c.lists) {
			t.Errorf("LeadersOf(%v, %v): %d leaders", c.space, c.code, len(leaders))
		}
		found := make([]bool, len(c.lists))
		for _, leader := range leaders {
			class, _ := impl.ShiftCode(c.space, c.code, leader)
			for _, w := range class {
				found[w] = true
			}
		}
		if slices.Contains(found, false) {
			t.Errorf("LeadersOf(%v, %v) = %v: not all words are in their classes", c.space, c.code, leaders)
		}
	}
}

func TestLeadersOfZeroAndOfAll(t *testing.T) {
	for _, x := range append(smallPlainSpaces(t), largePlainSpaces(t)...) {
		n, places := int64(len(x.lists)), int64(len(x.space.Sizes))
		leaders, err := impl.LeadersOf(x.space, []int64{0})
		checkCode(t, "LeadersOf the word 0", leaders, err, upTo(n))
		leaders, err = impl.LeadersOf(x.space, upTo(n))
		checkCode(t, "LeadersOf all words", leaders, err, []int64{0})
		most, err := impl.RadiusByLeaders(x.space, []int64{0})
		none, other := impl.RadiusByLeaders(x.space, upTo(n))
		if most != places || err != impl.ErrNone || none != 0 || other != impl.ErrNone {
			t.Errorf("RadiusByLeaders of %v: %d, %d and %d, %d", x.space, most, err, none, other)
		}
	}
}

// Radii by leaders are the radii of chapter 2.
func TestRadiiByLeaders(t *testing.T) {
	for _, c := range linearCases(t) {
		want := int64(0)
		for _, leader := range c.leaders() {
			want = max(want, weightOf(c.lists[leader]))
		}
		radius, err := impl.RadiusByLeaders(c.space, c.code)
		if radius != want || err != impl.ErrNone {
			t.Errorf("RadiusByLeaders(%v, %v) = %d, %d instead of %d", c.space, c.code, radius, err, want)
		}
		if other, _ := impl.RadiusOf(c.space, c.code); other != radius {
			t.Errorf("RadiusByLeaders(%v, %v) = %d, but the radius is %d", c.space, c.code, radius, other)
		}
		covers, err := impl.CoversSpace(c.space, c.code, radius)
		if !covers || err != impl.ErrNone {
			t.Errorf("%v, %v does not cover within %d, %d", c.space, c.code, radius, err)
		}
	}
}

// checkNearest expects the word of the code whose sum with the leader is w. It is nearest to w.
func checkNearest(t *testing.T, c linearCase, w int64) {
	t.Helper()
	leader := c.leaderOf(w)
	nearest, err := impl.NearestWord(c.space, c.code, w)
	if err != impl.ErrNone || !slices.Contains(c.code, nearest) || c.sums[nearest][leader] != w {
		t.Errorf("NearestWord(%v, %v, %d) = %d, %d, and the leader is %d", c.space, c.code, w, nearest, err, leader)
		return
	}
	least, _ := impl.DistanceTo(c.space, c.code, w)
	if far := apart(c.lists[nearest], c.lists[w]); far != least || far != weightOf(c.lists[leader]) {
		t.Errorf("NearestWord(%v, %v, %d) = %d has the distance %d instead of %d", c.space, c.code, w, nearest, far, least)
	}
	words, _ := impl.NearestWords(c.space, c.code, w)
	if !slices.Contains(words, nearest) {
		t.Errorf("NearestWord(%v, %v, %d) = %d, but the nearest ones are %v", c.space, c.code, w, nearest, words)
	}
}

func TestNearestWordsOfLinearCodes(t *testing.T) {
	for _, c := range linearCases(t) {
		for _, w := range c.someWords() {
			checkNearest(t, c, w)
		}
		for _, w := range c.code[:min(len(c.code), 20)] {
			if nearest, err := impl.NearestWord(c.space, c.code, w); nearest != w || err != impl.ErrNone {
				t.Errorf("NearestWord(%v, %v, %d) = %d, %d", c.space, c.code, w, nearest, err)
			}
		}
	}
}

// Of several nearest words it is not always the least one: the leader is the least one of its class.
func TestNearestWordsWrittenOut(t *testing.T) {
	for _, c := range []struct {
		sizes, code []int64
		want        []int64 // for all words of the space
	}{
		{[]int64{2}, []int64{0}, []int64{0, 0}}, {[]int64{3}, []int64{0, 1, 2}, []int64{0, 1, 2}},
		{[]int64{2, 2}, []int64{0, 3}, []int64{0, 0, 3, 3}}, {[]int64{2, 2}, []int64{0, 2}, []int64{0, 0, 2, 2}},
		{[]int64{2, 2, 2}, []int64{0, 7}, []int64{0, 0, 0, 7, 0, 7, 7, 7}},
		{[]int64{3, 3}, []int64{0, 4, 8}, []int64{0, 0, 0, 4, 4, 4, 8, 8, 8}},
		{[]int64{3, 3}, []int64{0, 5, 7}, []int64{0, 0, 0, 5, 5, 5, 7, 7, 7}},
		{[]int64{3, 3}, []int64{0, 3, 6}, []int64{0, 0, 0, 3, 3, 3, 6, 6, 6}},
	} {
		for w, want := range c.want {
			nearest, err := impl.NearestWord(space(t, c.sizes...), c.code, int64(w))
			if nearest != want || err != impl.ErrNone {
				t.Errorf("NearestWord(%v, %v, %d) = %d, %d instead of %d", c.sizes, c.code, w, nearest, err, want)
			}
		}
	}
}

// linearResults are what the functions of chapter 5 return for the span of some words.
type linearResults struct {
	sizes, words              []int64
	basis                     []int64
	counts, dualCounts        []int64
	dimension, radius, leader int64 // of the leaders, the greatest one as a number
}

func checkLinearResults(t *testing.T, c linearResults) {
	t.Helper()
	s := space(t, c.sizes...)
	code, err := impl.SpanOf(s, c.words)
	if err != impl.ErrNone {
		t.Errorf("SpanOf(%v, %v): %d", s, c.words, err)
	}
	basis, err := impl.LeastBasis(s, code)
	checkCode(t, "LeastBasis", basis, err, c.basis)
	counts, err := impl.WeightCounts(s, code)
	checkCode(t, "WeightCounts", counts, err, c.counts)
	dualCounts, err := impl.DualCounts(s, code)
	checkCode(t, "DualCounts", dualCounts, err, c.dualCounts)
	dimension, _ := impl.DimensionOf(s, code)
	radius, _ := impl.RadiusByLeaders(s, code)
	leaders, _ := impl.LeadersOf(s, code)
	if dimension != c.dimension || radius != c.radius || len(leaders) == 0 || slices.Max(leaders) != c.leader {
		t.Errorf("%v, %v: dimension %d, radius %d, leaders %v", s, code, dimension, radius, leaders)
	}
}

func TestLinearCodesWrittenOut(t *testing.T) {
	twos, threes := slices.Repeat([]int64{2}, 8), slices.Repeat([]int64{3}, 6)
	for _, c := range []linearResults{
		{twos[:1], nil, nil, []int64{1, 0}, []int64{1, 1}, 0, 1, 1},
		{twos[:1], []int64{1, 1}, []int64{1}, []int64{1, 1}, []int64{1, 0}, 1, 0, 0},
		{threes[:1], []int64{2}, []int64{1}, []int64{1, 2}, []int64{1, 0}, 1, 0, 0},
		{threes[:1], []int64{0}, nil, []int64{1, 0}, []int64{1, 2}, 0, 1, 2},
		{twos[:3], []int64{7}, []int64{7}, []int64{1, 0, 0, 1}, []int64{1, 0, 3, 0}, 1, 1, 4},
		{twos[:3], []int64{6, 3}, []int64{5, 3}, []int64{1, 0, 3, 0}, []int64{1, 0, 0, 1}, 2, 1, 1},
		{threes[:2], []int64{7}, []int64{5}, []int64{1, 0, 2}, []int64{1, 0, 2}, 1, 1, 2},
		{threes[:4], []int64{13, 32}, []int64{32, 13}, []int64{1, 0, 0, 8, 0}, []int64{1, 0, 0, 8, 0}, 2, 1, 54},
		{twos[:7], []int64{15, 51, 85}, []int64{85, 51, 15}, []int64{1, 0, 0, 0, 7, 0, 0, 0}, []int64{1, 0, 0, 7, 7, 0, 0, 1}, 3, 3, 64},
		{twos, []int64{255, 15, 51, 85}, []int64{150, 85, 51, 15}, []int64{1, 0, 0, 0, 14, 0, 0, 0, 1}, []int64{1, 0, 0, 0, 14, 0, 0, 0, 1}, 4, 2, 128},
		{twos, []int64{255}, []int64{255}, []int64{1, 0, 0, 0, 0, 0, 0, 0, 1}, []int64{1, 0, 28, 0, 70, 0, 28, 0, 1}, 1, 4, 224},
		{threes, []int64{728}, []int64{364}, []int64{1, 0, 0, 0, 0, 0, 2}, []int64{1, 0, 30, 40, 90, 60, 22}, 1, 4, 675},
	} {
		checkLinearResults(t, c)
	}
}

func TestLeadersWrittenOut(t *testing.T) {
	for _, c := range []struct{ sizes, words, want []int64 }{
		{[]int64{2, 2, 2}, []int64{7}, []int64{0, 1, 2, 4}}, {[]int64{2, 2, 2}, []int64{6, 3}, []int64{0, 1}},
		{[]int64{2, 2}, []int64{2}, []int64{0, 1}}, {[]int64{2, 2}, []int64{3}, []int64{0, 1}}, {[]int64{3, 3}, []int64{4}, []int64{0, 1, 2}},
		{[]int64{3, 3, 3, 3}, []int64{13, 32}, []int64{0, 1, 2, 3, 6, 9, 18, 27, 54}},
		{slices.Repeat([]int64{2}, 8), []int64{255, 15, 51, 85}, []int64{0, 1, 2, 3, 4, 5, 6, 8, 16, 17, 18, 20, 24, 32, 64, 128}},
	} {
		s := space(t, c.sizes...)
		code, _ := impl.SpanOf(s, c.words)
		leaders, err := impl.LeadersOf(s, code)
		checkCode(t, "LeadersOf", leaders, err, c.want)
	}
}

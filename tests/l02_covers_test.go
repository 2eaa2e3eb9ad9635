package tests

import (
	"slices"
	"testing"

	"loop.example/g01411/impl"
)

// coverCase is a code of a space, with the distances of all words of the space from each other.
type coverCase struct {
	space impl.Space
	table [][]int64
	code  []int64
}

// distanceTable counts the distances of all words of a space from each other.
func distanceTable(s impl.Space) [][]int64 {
	lists := digitLists(s.Sizes)
	table := make([][]int64, len(lists))
	for u := range lists {
		table[u] = make([]int64, len(lists))
		for w := range lists {
			table[u][w] = apart(lists[u], lists[w])
		}
	}
	return table
}

// allCodes are all codes of a space of few words.
func allCodes(n int64) [][]int64 {
	codes := [][]int64{{}}
	for w := range n {
		for _, code := range codes {
			codes = append(codes, append(slices.Clone(code), w))
		}
	}
	return codes
}

// coverCases are all codes of the spaces of up to 9 words, and some of greater ones.
func coverCases(t *testing.T) []coverCase {
	cases := []coverCase{}
	for _, s := range append(smallSpaces(t), largeSpaces(t)...) {
		table := distanceTable(s)
		codes := someCodes(s)
		if len(table) <= 9 {
			codes = allCodes(int64(len(table)))
		}
		for _, code := range codes {
			cases = append(cases, coverCase{s, table, code})
		}
	}
	return cases
}

// radii are all of them for small spaces, and some for the greatest ones.
func (c coverCase) radii() []int64 {
	if len(c.table) <= 64 {
		return upTo(impl.MaxPlaces + 1)
	}
	return []int64{0, 1, 2, 4, 5, 8}
}

// times counts, for each word of the space, the words of the code within r.
func (c coverCase) times(r int64) []int64 {
	times := make([]int64, len(c.table))
	for _, w := range c.code {
		for u, d := range c.table[w] {
			if d <= r {
				times[u]++
			}
		}
	}
	return times
}

// distance finds the least distance of a word from the words of the code, which has some.
func (c coverCase) distance(w int64) int64 {
	least := int64(99)
	for _, u := range c.code {
		least = min(least, c.table[w][u])
	}
	return least
}

// without is the case of the code without its word k.
func (c coverCase) without(k int) coverCase {
	return coverCase{c.space, c.table, slices.Delete(slices.Clone(c.code), k, k+1)}
}

// wordsWith returns the words for which a list has a number.
func wordsWith(list []int64, number int64) []int64 {
	words := []int64{}
	for w, x := range list {
		if x == number {
			words = append(words, int64(w))
		}
	}
	return words
}

func TestCodesCover(t *testing.T) {
	for _, c := range coverCases(t) {
		for _, r := range c.radii() {
			want := wordsWith(c.times(r), 0)
			words, err := impl.UncoveredWords(c.space, c.code, r)
			if !slices.Equal(words, want) || err != impl.ErrNone {
				t.Errorf("UncoveredWords(%v, %v, %d) = %v, %d", c.space, c.code, r, words, err)
			}
			covers, err := impl.CoversSpace(c.space, c.code, r)
			if covers != (len(want) == 0) || err != impl.ErrNone {
				t.Errorf("CoversSpace(%v, %v, %d) = %v, %d", c.space, c.code, r, covers, err)
			}
		}
	}
}

func TestTimesCovered(t *testing.T) {
	for _, c := range coverCases(t) {
		step := 1 + len(c.table)/16
		for _, r := range c.radii() {
			times := c.times(r)
			for w := 0; w < len(times); w += step {
				got, err := impl.TimesCovered(c.space, c.code, int64(w), r)
				if got != times[w] || err != impl.ErrNone {
					t.Errorf("TimesCovered(%v, %v, %d, %d) = %d, %d", c.space, c.code, w, r, got, err)
				}
			}
		}
	}
}

func TestCoverCountsAddUp(t *testing.T) {
	for _, c := range coverCases(t) {
		for _, r := range c.radii() {
			times := c.times(r)
			counts, err := impl.CoverCounts(c.space, c.code, r)
			if len(counts) != len(c.code)+1 || err != impl.ErrNone {
				t.Fatalf("CoverCounts(%v, %v, %d) = %v, %d", c.space, c.code, r, counts, err)
			}
			words, balls := int64(0), int64(0)
			for k, count := range counts {
				if count != int64(len(wordsWith(times, int64(k)))) {
					t.Errorf("CoverCounts(%v, %v, %d) = %v", c.space, c.code, r, counts)
				}
				words += count
				balls += count * int64(k)
			}
			size, _ := impl.BallSize(c.space, r)
			if words != int64(len(c.table)) || balls != size*int64(len(c.code)) {
				t.Errorf("CoverCounts(%v, %v, %d): %d words, %d in balls", c.space, c.code, r, words, balls)
			}
		}
	}
}

func TestExcess(t *testing.T) {
	for _, c := range coverCases(t) {
		for _, r := range c.radii() {
			want, state := int64(0), int64(impl.ErrNone)
			for _, times := range c.times(r) {
				want += times - 1
				if times == 0 {
					state = impl.ErrState
				}
			}
			if state != impl.ErrNone {
				want = 0
			}
			if excess, err := impl.ExcessOf(c.space, c.code, r); excess != want || err != state {
				t.Errorf("ExcessOf(%v, %v, %d) = %d, %d", c.space, c.code, r, excess, err)
			}
		}
	}
}

// Codes cover within their radius and within no lesser one, and the farthest word has this
// distance from them.
func TestRadiiAndFarthestWords(t *testing.T) {
	for _, c := range coverCases(t) {
		if len(c.code) == 0 {
			continue
		}
		distances := []int64{}
		for w := range c.table {
			distances = append(distances, c.distance(int64(w)))
		}
		radius, err := impl.RadiusOf(c.space, c.code)
		if radius != slices.Max(distances) || err != impl.ErrNone {
			t.Errorf("RadiusOf(%v, %v) = %d, %d", c.space, c.code, radius, err)
		}
		for r := range int64(impl.MaxPlaces + 1) {
			if covers, err := impl.CoversSpace(c.space, c.code, r); covers != (r >= radius) || err != impl.ErrNone {
				t.Errorf("CoversSpace(%v, %v, %d) = %v, %d, but the radius is %d", c.space, c.code, r, covers, err, radius)
			}
		}
		far, err := impl.FarthestWord(c.space, c.code)
		if far != wordsWith(distances, radius)[0] || err != impl.ErrNone {
			t.Errorf("FarthestWord(%v, %v) = %d, %d", c.space, c.code, far, err)
		}
		if d, _ := impl.DistanceTo(c.space, c.code, far); d != radius {
			t.Errorf("%v: %d is %d from %v, but the radius is %d", c.space, far, d, c.code, radius)
		}
	}
}

func TestNearestWords(t *testing.T) {
	for _, c := range coverCases(t) {
		step := 1 + int64(len(c.table))/48
		for w := int64(0); w < int64(len(c.table)) && len(c.code) > 0; w += step {
			least := c.distance(w)
			if d, err := impl.DistanceTo(c.space, c.code, w); d != least || err != impl.ErrNone {
				t.Errorf("DistanceTo(%v, %v, %d) = %d, %d", c.space, c.code, w, d, err)
			}
			want := slices.DeleteFunc(slices.Clone(c.code), func(u int64) bool { return c.table[u][w] != least })
			if words, err := impl.NearestWords(c.space, c.code, w); !slices.Equal(words, want) || err != impl.ErrNone {
				t.Errorf("NearestWords(%v, %v, %d) = %v, %d", c.space, c.code, w, words, err)
			}
		}
	}
}

// covers counts the words that the code covers.
func (c coverCase) covers(r int64) int {
	return len(c.table) - len(wordsWith(c.times(r), 0))
}

// isNeeded reports whether a word of the space within r of the word k of the code is covered once.
// (Without the word k, just these are covered no more.)
func (c coverCase) isNeeded(k int, r int64, times []int64) bool {
	for u, d := range c.table[c.code[k]] {
		if d <= r && times[u] == 1 {
			return true
		}
	}
	return false
}

func TestNeededWords(t *testing.T) {
	for _, c := range coverCases(t) {
		for _, r := range c.radii() {
			times, want := c.times(r), []int64{}
			for k, w := range c.code {
				isNeeded := c.isNeeded(k, r, times)
				if isNeeded {
					want = append(want, w)
				}
				if len(c.table) <= 9 && isNeeded != (c.without(k).covers(r) < c.covers(r)) {
					t.Fatalf("the test is wrong about %d of %v in %v for %d", w, c.code, c.space, r)
				}
			}
			if words, err := impl.NeededWords(c.space, c.code, r); !slices.Equal(words, want) || err != impl.ErrNone {
				t.Errorf("NeededWords(%v, %v, %d) = %v, %d", c.space, c.code, r, words, err)
			}
		}
	}
}

// leanByHand leaves out, from the first word on, what is not needed in what is left.
func (c coverCase) leanByHand(r int64) []int64 {
	times, lean := c.times(r), []int64{}
	for k, w := range c.code {
		if c.isNeeded(k, r, times) {
			lean = append(lean, w)
			continue
		}
		for u, d := range c.table[w] {
			if d <= r {
				times[u]--
			}
		}
	}
	return lean
}

// Lean codes cover the same words, and none of their own words can be left out.
func TestLeanCodes(t *testing.T) {
	for _, c := range coverCases(t) {
		for _, r := range c.radii() {
			lean, err := impl.LeanCode(c.space, c.code, r)
			if !slices.Equal(lean, c.leanByHand(r)) || err != impl.ErrNone {
				t.Errorf("LeanCode(%v, %v, %d) = %v, %d", c.space, c.code, r, lean, err)
			}
			before, _ := impl.UncoveredWords(c.space, c.code, r)
			if after, err := impl.UncoveredWords(c.space, lean, r); !slices.Equal(before, after) || err != impl.ErrNone {
				t.Errorf("%v: lean %v for %d leaves %v, %d", c.space, lean, r, after, err)
			}
			if needed, err := impl.NeededWords(c.space, lean, r); !slices.Equal(needed, lean) || err != impl.ErrNone {
				t.Errorf("%v: of lean %v for %d are needed %v, %d", c.space, lean, r, needed, err)
			}
			if again, _ := impl.LeanCode(c.space, lean, r); !slices.Equal(again, lean) {
				t.Errorf("%v: lean %v for %d made lean again is %v", c.space, lean, r, again)
			}
		}
	}
}

// greedyByHand takes the words of a greedy code in their order.
func greedyByHand(table [][]int64, r int64) []int64 {
	code := []int64{}
	open := upTo(int64(len(table)))
	for len(open) > 0 {
		best, most := 0, 0
		for w := range table {
			count := 0
			for _, u := range open {
				if table[w][u] <= r {
					count++
				}
			}
			if count > most {
				best, most = w, count
			}
		}
		code = append(code, int64(best))
		open = slices.DeleteFunc(open, func(u int64) bool { return table[best][u] <= r })
	}
	return code
}

func TestGreedyCodes(t *testing.T) {
	unordered := 0
	for _, s := range append(smallSpaces(t), largeSpaces(t)...) {
		table := distanceTable(s)
		for r := range int64(impl.MaxPlaces + 1) {
			want := upTo(int64(len(table)))
			if r > 0 {
				want = greedyByHand(table, r)
			}
			if !slices.IsSorted(want) {
				unordered++
				slices.Sort(want)
			}
			code, err := impl.GreedyCode(s, r)
			if !slices.Equal(code, want) || err != impl.ErrNone {
				t.Errorf("GreedyCode(%v, %d) = %v, %d", s, r, code, err)
			}
			if covers, err := impl.CoversSpace(s, code, r); !covers || err != impl.ErrNone {
				t.Errorf("GreedyCode(%v, %d) = %v does not cover, %d", s, r, code, err)
			}
		}
	}
	if unordered == 0 {
		t.Errorf("no greedy code here finds its words in another order than the ascending one")
	}
}

// coverResults are what chapter 2 tells of a code, written out.
type coverResults struct {
	sizes, code []int64
	r           int64
	uncovered   []int64
	radius, far int64
	counts      []int64
	excess      int64
	needed      []int64
	lean        []int64
}

func TestCoversWrittenOut(t *testing.T) {
	for _, c := range []coverResults{
		// One place: each word covers all within 1, and itself alone within 0.
		{[]int64{2}, []int64{0}, 0, []int64{1}, 1, 1, []int64{1, 1}, -1, []int64{0}, []int64{0}},
		{[]int64{4}, []int64{1, 2}, 1, nil, 1, 0, []int64{0, 0, 4}, 4, nil, []int64{2}},
		{[]int64{3}, []int64{0, 1, 2}, 0, nil, 0, 0, []int64{0, 3, 0, 0}, 0, []int64{0, 1, 2}, []int64{0, 1, 2}},
		{[]int64{3}, []int64{0, 1, 2}, 8, nil, 0, 0, []int64{0, 0, 0, 3}, 6, nil, []int64{2}},
		// The words 000 and 111, alone and with 001; the words 1, 2 and 4 are equally far.
		{[]int64{2, 2, 2}, []int64{0, 7}, 1, nil, 1, 1, []int64{0, 8, 0}, 0, []int64{0, 7}, []int64{0, 7}},
		{[]int64{2, 2, 2}, []int64{0, 7}, 0, []int64{1, 2, 3, 4, 5, 6}, 1, 1, []int64{6, 2, 0}, -1, []int64{0, 7}, []int64{0, 7}},
		{[]int64{2, 2, 2}, []int64{0, 1, 7}, 1, nil, 1, 2, []int64{0, 4, 4, 0}, 4, []int64{0, 7}, []int64{0, 7}},
		// All words twice: no word is needed, but not all can be left out.
		{[]int64{2, 2}, []int64{0, 1, 2, 3}, 1, nil, 0, 0, []int64{0, 0, 0, 4, 0}, 8, nil, []int64{2, 3}},
		// Five places of the size 2: 00000 and 11111 are perfect for 2.
		{[]int64{2, 2, 2, 2, 2}, []int64{0, 31}, 2, nil, 2, 3, []int64{0, 32, 0}, 0, []int64{0, 31}, []int64{0, 31}},
		// Eight places: one word reaches its opposite with MaxPlaces, and no sooner.
		{[]int64{2, 2, 2, 2, 2, 2, 2, 2}, []int64{5}, 8, nil, 8, 250, []int64{0, 256}, 0, []int64{5}, []int64{5}},
		{[]int64{2, 2, 2, 2, 2, 2, 2, 2}, []int64{5}, 7, []int64{250}, 8, 250, []int64{1, 255}, -1, []int64{5}, []int64{5}},
		// 1024 words: those that differ from the last one at all places.
		{
			[]int64{4, 4, 2, 2, 2, 2, 2, 2}, []int64{1023}, 7, []int64{0, 64, 128, 256, 320, 384, 512, 576, 640},
			8, 0, []int64{9, 1015}, -1, []int64{1023}, []int64{1023},
		},
	} {
		checkWrittenOut(t, space(t, c.sizes...), c)
	}
}

// checkWrittenOut holds a code against what is written out. An excess of -1 stands for ErrState.
func checkWrittenOut(t *testing.T, s impl.Space, c coverResults) {
	t.Helper()
	uncovered, _ := impl.UncoveredWords(s, c.code, c.r)
	covers, _ := impl.CoversSpace(s, c.code, c.r)
	if !slices.Equal(uncovered, c.uncovered) || covers != (len(c.uncovered) == 0) {
		t.Errorf("%v for %d: uncovered %v, covers %v", c.code, c.r, uncovered, covers)
	}
	radius, _ := impl.RadiusOf(s, c.code)
	far, _ := impl.FarthestWord(s, c.code)
	counts, _ := impl.CoverCounts(s, c.code, c.r)
	if radius != c.radius || far != c.far || !slices.Equal(counts, c.counts) {
		t.Errorf("%v for %d: radius %d, farthest word %d, counts %v", c.code, c.r, radius, far, counts)
	}
	excess, err := impl.ExcessOf(s, c.code, c.r)
	if err == impl.ErrState && excess == 0 {
		excess = -1
	}
	needed, _ := impl.NeededWords(s, c.code, c.r)
	lean, _ := impl.LeanCode(s, c.code, c.r)
	if excess != c.excess || !slices.Equal(needed, c.needed) || !slices.Equal(lean, c.lean) {
		t.Errorf("%v for %d: excess %d, needed %v, lean %v", c.code, c.r, excess, needed, lean)
	}
}

func TestTiesOfWords(t *testing.T) {
	s := space(t, 2, 2, 2)
	for _, c := range []struct {
		code []int64
		w    int64
		want []int64
	}{
		{[]int64{0, 3, 5, 6}, 7, []int64{3, 5, 6}},
		{[]int64{0, 3, 5, 6}, 0, []int64{0}},
		{[]int64{0, 7}, 3, []int64{7}},
		{[]int64{3, 4, 7}, 0, []int64{4}},
		{[]int64{7}, 0, []int64{7}},
		{upTo(8), 5, []int64{5}},
		{[]int64{0, 1, 2, 3, 4, 6, 7}, 5, []int64{1, 4, 7}},
	} {
		if words, err := impl.NearestWords(s, c.code, c.w); !slices.Equal(words, c.want) || err != impl.ErrNone {
			t.Errorf("NearestWords(%v, %d) = %v, %d", c.code, c.w, words, err)
		}
	}
	for _, c := range []struct {
		sizes []int64
		r     int64
		want  []int64
	}{
		{[]int64{2}, 0, []int64{0, 1}}, {[]int64{4}, 1, []int64{0}}, {[]int64{2, 2, 2}, 1, []int64{0, 7}},
		{[]int64{2, 2, 2}, 8, []int64{0}},
		// Of the words 1, 2 and 3, that cover the word 3, the least one.
		{[]int64{2, 2}, 1, []int64{0, 1}},
		// First 0, then 4 with three more words, and of 2, 5, 6, 7 and 8, that cover 8, the least one.
		{[]int64{3, 3}, 1, []int64{0, 2, 4}},
	} {
		if code, err := impl.GreedyCode(space(t, c.sizes...), c.r); !slices.Equal(code, c.want) || err != impl.ErrNone {
			t.Errorf("GreedyCode(%v, %d) = %v, %d", c.sizes, c.r, code, err)
		}
	}
}

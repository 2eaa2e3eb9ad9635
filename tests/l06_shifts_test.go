package tests

import (
	"slices"
	"testing"

	"loop.example/g01411/impl"
)

// shiftSpace is a space with the sums of each two of its words.
type shiftSpace struct {
	space impl.Space
	sums  [][]int64
}

// newShiftSpace adds the digits of each two words by hand.
func newShiftSpace(s impl.Space) shiftSpace {
	x := shiftSpace{space: s}
	digits := digitLists(s.Sizes)
	for _, first := range digits {
		row := make([]int64, len(digits))
		for w, second := range digits {
			for i, q := range s.Sizes {
				row[w] = row[w]*q + (first[i]+second[i])%q
			}
		}
		x.sums = append(x.sums, row)
	}
	return x
}

// shiftSpaces are small spaces, and large ones with the greatest numbers of places and words.
func shiftSpaces(t *testing.T) []shiftSpace {
	spaces := []shiftSpace{}
	for _, s := range append(smallSpaces(t), largeSpaces(t)...) {
		spaces = append(spaces, newShiftSpace(s))
	}
	return append(spaces, newShiftSpace(space(t, 2, 2, 2, 2, 2, 2, 2)), newShiftSpace(space(t, 3, 3, 3, 3)))
}

// codes are all codes with words of a space of up to 9 words, and some of a greater one, among them
// those of the words with one sign at the last place, or at the first one, and those that are spans.
func (x shiftSpace) codes() [][]int64 {
	n := int64(len(x.sums))
	if n <= 9 {
		return allCodes(n)[1:]
	}
	codes := [][]int64{}
	for _, code := range someCodes(x.space) {
		if len(code) > 0 {
			codes = append(codes, code)
		}
	}
	last := x.space.Sizes[len(x.space.Sizes)-1]
	each := []int64{}
	for w := int64(0); w < n; w += last {
		each = append(each, w)
	}
	codes = append(codes, each, upTo(n/x.space.Sizes[0]), upTo(last), []int64{n / 3, n/3 + 1}, []int64{0, 1, n/2 + 1})
	for _, w := range []int64{1, n - 1, n / 2, n/2 + 1, 7 % n} {
		codes = append(codes, x.multiples(w))
	}
	return codes
}

// multiples are the sums of as many words as you like, all of them w.
func (x shiftSpace) multiples(w int64) []int64 {
	code := []int64{0}
	for sum := w; sum != 0; sum = x.sums[sum][w] {
		code = append(code, sum)
	}
	slices.Sort(code)
	return code
}

// firstShift tries all words for the least one by which the code has w and nothing that is taken, and
// returns -1 if there is none.
func (x shiftSpace) firstShift(code []int64, taken []bool, w int64) int64 {
	for v, sums := range x.sums {
		has, isFree := false, true
		for _, u := range code {
			has = has || sums[u] == w
			isFree = isFree && !taken[sums[u]]
		}
		if has && isFree {
			return int64(v)
		}
	}
	return -1
}

// firstShifts takes one shift after the other, and returns none if one is not to be found.
func (x shiftSpace) firstShifts(code []int64) []int64 {
	shifts, taken := []int64{}, make([]bool, len(x.sums))
	for w := range taken {
		if taken[w] {
			continue
		}
		v := x.firstShift(code, taken, int64(w))
		if v < 0 {
			return nil
		}
		shifts = append(shifts, v)
		for _, u := range code {
			taken[x.sums[v][u]] = true
		}
	}
	return shifts
}

// doPart counts how often each word is in a shifted code.
func (x shiftSpace) doPart(code []int64, shifts []int64) bool {
	times := make([]int64, len(x.sums))
	for _, v := range shifts {
		for _, u := range code {
			times[x.sums[v][u]]++
		}
	}
	return !slices.ContainsFunc(times, func(count int64) bool { return count != 1 })
}

// checkDoPart holds DoPart against the count by hand.
func (x shiftSpace) checkDoPart(t *testing.T, code []int64, shifts []int64) {
	t.Helper()
	want := x.doPart(code, shifts)
	if part, err := impl.DoPart(x.space, code, shifts); part != want || err != impl.ErrNone {
		t.Errorf("DoPart(%v, %v, %v) = %v, %d", x.space, code, shifts, part, err)
	}
}

// checkFirstShifts holds the first shifts against those found by hand. Shifts found part the space.
func (x shiftSpace) checkFirstShifts(t *testing.T, code []int64) {
	t.Helper()
	want := x.firstShifts(code)
	shifts, err := impl.FirstShifts(x.space, code)
	if want == nil {
		fails(t, "FirstShifts", list(shifts, err), impl.ErrNotFound)
		return
	}
	checkCode(t, "FirstShifts", shifts, err, want)
	part, err := impl.DoPart(x.space, code, shifts)
	if !part || !x.doPart(code, shifts) || len(shifts)*len(code) != len(x.sums) || err != impl.ErrNone {
		t.Errorf("DoPart(%v, %v, %v) = %v, %d", x.space, code, shifts, part, err)
	}
}

func TestFirstShifts(t *testing.T) {
	for _, x := range shiftSpaces(t) {
		for _, code := range x.codes() {
			x.checkFirstShifts(t, code)
		}
	}
}

// Perfect codes and linear codes have shifts, as many as a ball or classes; the leaders of the
// classes part the space, too.
func TestShiftsOfHammingCodes(t *testing.T) {
	for _, c := range []struct{ q, m int64 }{{2, 2}, {2, 3}, {3, 2}} {
		s, code, _ := impl.HammingCode(c.q, c.m)
		x := newShiftSpace(s)
		for w := range int64(len(x.sums)) {
			shifted, _ := impl.ShiftCode(s, code, w)
			x.checkFirstShifts(t, shifted)
			shifts, err := impl.FirstShifts(s, shifted)
			size, _ := impl.BallSize(s, 1)
			if int64(len(shifts)) != size || err != impl.ErrNone {
				t.Errorf("FirstShifts(%v, %v) = %v, %d", s, shifted, shifts, err)
			}
		}
		leaders, _ := impl.LeadersOf(s, code)
		ball, _ := impl.BallOf(s, 0, 1)
		for _, shifts := range [][]int64{leaders, ball} {
			if part, err := impl.DoPart(s, code, shifts); !part || err != impl.ErrNone {
				t.Errorf("DoPart(%v, %v, %v) = %v, %d", s, code, shifts, part, err)
			}
		}
	}
}

// changedLists are lists that come from one of words by changes, in other orders, longer and shorter.
func changedLists(words []int64, n int64) [][]int64 {
	turned := slices.Clone(words)
	slices.Reverse(turned)
	changes := [][]int64{turned, words[1:], words[:len(words)-1], append(slices.Clone(words), words[0]), append(slices.Clone(words), n-1)}
	for _, k := range []int{0, len(words) / 2, len(words) - 1} {
		for _, w := range []int64{0, words[0], words[len(words)-1], n - 1, (words[k] + 1) % n} {
			changed := slices.Clone(words)
			changed[k] = w
			changes = append(changes, changed)
		}
	}
	return changes
}

func TestListsThatPart(t *testing.T) {
	for _, x := range shiftSpaces(t) {
		n := int64(len(x.sums))
		for _, code := range x.codes() {
			lists := [][]int64{nil, {}, {0}, {n - 1}, {0, 0}, {n - 1, n - 1}, {0, n - 1}, upTo(n), make([]int64, n), make([]int64, n+1)}
			if shifts := x.firstShifts(code); shifts != nil {
				lists = append(lists, shifts)
				lists = append(lists, changedLists(shifts, n)...)
			}
			if n%int64(len(code)) == 0 {
				lists = append(lists, upTo(n/int64(len(code))), slices.Repeat([]int64{1}, int(n)/len(code)))
			}
			for _, shifts := range lists {
				x.checkDoPart(t, code, shifts)
			}
		}
	}
}

// In the spaces of the fewest words, all lists of up to one word more are tried.
func TestAllListsThatPart(t *testing.T) {
	for _, sizes := range [][]int64{{2}, {3}, {4}, {2, 2}} {
		x := newShiftSpace(space(t, sizes...))
		n := int64(len(x.sums))
		for _, code := range x.codes() {
			for length := range int(n) + 2 {
				for _, shifts := range digitLists(slices.Repeat([]int64{n}, length)) {
					x.checkDoPart(t, code, shifts)
				}
			}
		}
	}
}

func TestShiftsWrittenOut(t *testing.T) {
	for _, c := range []struct{ sizes, code, want []int64 }{
		{[]int64{2}, []int64{0}, []int64{0, 1}}, {[]int64{2}, []int64{1}, []int64{1, 0}}, {[]int64{2}, []int64{0, 1}, []int64{0}},
		{[]int64{3}, []int64{1}, []int64{2, 0, 1}}, {[]int64{3}, []int64{0, 2}, nil}, {[]int64{4}, []int64{1, 3}, []int64{1, 0}},
		{[]int64{4}, []int64{0, 1}, []int64{0, 2}}, {[]int64{4}, []int64{0, 3}, []int64{0, 2}}, {[]int64{4}, []int64{0, 1, 2}, nil},
		{[]int64{2, 2}, []int64{1, 2}, []int64{1, 0}}, {[]int64{2, 2}, []int64{1, 2, 3}, nil},
		{[]int64{2, 2, 2}, []int64{0, 7}, []int64{0, 1, 2, 3}}, {[]int64{2, 2, 2}, []int64{2, 5}, []int64{2, 3, 0, 1}},
		{[]int64{3, 3}, []int64{4}, []int64{8, 6, 7, 2, 0, 1, 5, 3, 4}},
	} {
		s := space(t, c.sizes...)
		shifts, err := impl.FirstShifts(s, c.code)
		if c.want == nil {
			fails(t, "FirstShifts", list(shifts, err), impl.ErrNotFound)
		} else {
			checkCode(t, "FirstShifts", shifts, err, c.want)
		}
	}
	for _, c := range []struct {
		code, shifts []int64
		want         bool
	}{
		{[]int64{0, 7}, []int64{0, 1, 2, 4}, true}, {[]int64{0, 7}, []int64{7, 6, 5, 4}, true}, {[]int64{0, 7}, []int64{0, 1, 2, 5}, false},
		{[]int64{0, 7}, []int64{0, 1, 2}, false}, {[]int64{0, 7}, []int64{0, 0, 1, 2, 4}, false}, {[]int64{0, 7}, []int64{0, 1, 2, 0}, false},
		{[]int64{0, 7}, nil, false}, {upTo(8), []int64{3}, true}, {upTo(8), []int64{0, 1}, false}, {upTo(8), nil, false}, {[]int64{3}, upTo(8), true},
	} {
		if part, err := impl.DoPart(space(t, 2, 2, 2), c.code, c.shifts); part != c.want || err != impl.ErrNone {
			t.Errorf("DoPart(%v, %v) = %v, %d", c.code, c.shifts, part, err)
		}
	}
}

// countShifts counts what kinds of first shifts the codes of a space have.
func (x shiftSpace) countShifts(counts map[string]int) {
	n := len(x.sums)
	for _, code := range x.codes() {
		shifts := x.firstShifts(code)
		switch {
		case shifts == nil && n%len(code) != 0:
			counts["too many words or too few"]++
		case shifts == nil:
			counts["not found"]++
		case len(code) == n:
			counts["all words"]++
		case n == impl.MaxWords:
			counts["MaxWords words"]++
		case !slices.IsSorted(shifts):
			counts["not in order"]++
		}
		taken := make([]bool, n)
		for _, v := range shifts {
			w := int64(slices.Index(taken, false))
			if v != x.firstShift(code, make([]bool, n), w) {
				counts["another shift than the least one by which the code has the word"]++
			}
			for _, u := range code {
				taken[x.sums[v][u]] = true
			}
		}
	}
}

// The tests above would miss much if all shifts were of one kind.
func TestShiftsAreDifferent(t *testing.T) {
	counts := map[string]int{}
	for _, x := range shiftSpaces(t) {
		x.countShifts(counts)
	}
	if len(counts) != 6 {
		t.Errorf("the shifts are only these: %v", counts)
	}
}

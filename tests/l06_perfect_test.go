package tests

import (
	"slices"
	"testing"

	"loop.example/g01411/impl"
)

// perfectCase is a code that is perfect, and the least radius for which it is.
type perfectCase struct {
	coverCase
	radius int64
}

// newPerfectCase shifts a code by a word.
func newPerfectCase(t *testing.T, s impl.Space, table [][]int64, code []int64, w int64, radius int64) perfectCase {
	t.Helper()
	shifted, err := impl.ShiftCode(s, code, w)
	if err != impl.ErrNone {
		t.Fatalf("ShiftCode(%v, %v, %d): %d", s, code, w, err)
	}
	return perfectCase{coverCase{s, table, shifted}, radius}
}

// fourSigns are the words of five places of the size 4 whose digits, as 0, 1 and the two roots of
// x * x + x + 1, have the sums 0 by the columns 01, 10, 11, 12 and 13.
func fourSigns() []int64 {
	products := [4][4]int64{{0, 0, 0, 0}, {0, 1, 2, 3}, {0, 2, 3, 1}, {0, 3, 1, 2}}
	code := []int64{}
	for w, d := range digitLists([]int64{4, 4, 4, 4, 4}) {
		first := d[1] ^ d[2] ^ d[3] ^ d[4]
		second := d[0] ^ d[2] ^ products[2][d[3]] ^ products[3][d[4]]
		if first == 0 && second == 0 {
			code = append(code, int64(w))
		}
	}
	return code
}

// sevenPlaces are the words of seven places of the size 2 for which the numbers 1 to 7 of the places
// with the digit 1 have the sum 0 without carry.
func sevenPlaces() []int64 {
	code := []int64{}
	for w, digits := range digitLists([]int64{2, 2, 2, 2, 2, 2, 2}) {
		sum := 0
		for i, d := range digits {
			sum ^= int(d) * (i + 1)
		}
		if sum == 0 {
			code = append(code, int64(w))
		}
	}
	return code
}

// perfectCases are perfect codes: those of each space that are all words or one alone, those of two
// opposite words, those of columns, and some with places of two sizes.
func perfectCases(t *testing.T) []perfectCase {
	cases := []perfectCase{}
	for _, s := range append(smallSpaces(t), largeSpaces(t)...) {
		table := distanceTable(s)
		cases = append(cases, newPerfectCase(t, s, table, upTo(int64(len(table))), 0, 0))
		for _, w := range []int64{0, int64(len(table) / 2), int64(len(table) - 1)} {
			cases = append(cases, newPerfectCase(t, s, table, []int64{0}, w, int64(len(s.Sizes))))
		}
	}
	for _, c := range []struct {
		sizes, code []int64
		radius      int64
	}{
		{[]int64{2, 2, 2}, []int64{0, 7}, 1},
		{[]int64{2, 2, 2, 2, 2}, []int64{0, 31}, 2},
		{[]int64{2, 2, 2, 2, 2, 2, 2}, []int64{0, 127}, 3},
		{[]int64{2, 2, 2, 2, 2, 2, 2}, sevenPlaces(), 1},
		{[]int64{3, 3, 3, 3}, []int64{0, 13, 26, 32, 42, 46, 61, 65, 75}, 1},
		{[]int64{2, 2, 2, 2, 4}, []int64{0, 13, 22, 27, 39, 42, 49, 60}, 1},
		{[]int64{2, 4, 2, 2, 2}, []int64{0, 11, 21, 30, 39, 44, 50, 57}, 1},
		{[]int64{4, 4, 4, 4, 4}, fourSigns(), 1},
	} {
		s := space(t, c.sizes...)
		table := distanceTable(s)
		for _, w := range []int64{0, 1, 5, int64(len(table) / 2), int64(len(table) - 2)} {
			cases = append(cases, newPerfectCase(t, s, table, c.code, w, c.radius))
		}
	}
	return cases
}

// isPerfect asks whether each word of the space is covered just once.
func (c coverCase) isPerfect(r int64) bool {
	return !slices.ContainsFunc(c.times(r), func(times int64) bool { return times != 1 })
}

// leastPerfect finds the least radius for which the code is perfect, and -1 if there is none.
func (c coverCase) leastPerfect() int64 {
	for r := range int64(impl.MaxPlaces + 1) {
		if c.isPerfect(r) {
			return r
		}
	}
	return -1
}

// checkPerfect holds IsPerfect against the times that words are covered, and against the excess,
// which is 0 just for perfect codes.
func checkPerfect(t *testing.T, c coverCase, r int64) {
	t.Helper()
	want := c.isPerfect(r)
	perfect, err := impl.IsPerfect(c.space, c.code, r)
	if perfect != want || err != impl.ErrNone {
		t.Errorf("IsPerfect(%v, %v, %d) = %v, %d", c.space, c.code, r, perfect, err)
	}
	excess, err := impl.ExcessOf(c.space, c.code, r)
	covers, _ := impl.CoversSpace(c.space, c.code, r)
	if perfect && !covers || perfect != (excess == 0 && err == impl.ErrNone) {
		t.Errorf("%v, %v, %d: perfect %v, covers %v, excess %d, %d", c.space, c.code, r, perfect, covers, excess, err)
	}
}

// Perfect codes cover within r and have no excess.
func TestPerfectCodes(t *testing.T) {
	for _, c := range coverCases(t) {
		for _, r := range c.radii() {
			checkPerfect(t, c, r)
		}
	}
	for _, c := range perfectCases(t) {
		for _, r := range append(c.radii(), c.radius) {
			checkPerfect(t, c.coverCase, r)
		}
	}
}

// checkPerfectRadius holds the least radius against all, and against the radius of chapter 2.
func checkPerfectRadius(t *testing.T, c coverCase) {
	t.Helper()
	want := c.leastPerfect()
	radius, err := impl.PerfectRadius(c.space, c.code)
	if want < 0 {
		fails(t, "PerfectRadius", number(radius, err), impl.ErrNotFound)
		return
	}
	covering, other := impl.RadiusOf(c.space, c.code)
	if radius != want || err != impl.ErrNone || covering != radius || other != impl.ErrNone {
		t.Errorf("PerfectRadius(%v, %v) = %d, %d instead of %d, and the radius is %d", c.space, c.code, radius, err, want, covering)
	}
}

func TestPerfectRadii(t *testing.T) {
	for _, c := range coverCases(t) {
		if len(c.table) <= 64 {
			checkPerfectRadius(t, c)
		}
	}
	for _, c := range perfectCases(t) {
		checkPerfectRadius(t, c.coverCase)
		if radius, err := impl.PerfectRadius(c.space, c.code); radius != c.radius || err != impl.ErrNone {
			t.Errorf("PerfectRadius(%v, %v) = %d, %d instead of %d", c.space, c.code, radius, err, c.radius)
		}
	}
}

// A code is perfect for radii beyond the least one just if it has one word and they reach all places.
func TestPerfectForFurtherRadii(t *testing.T) {
	for _, c := range perfectCases(t) {
		for r := range int64(impl.MaxPlaces + 1) {
			want := r == c.radius || len(c.code) == 1 && r > c.radius
			if perfect, err := impl.IsPerfect(c.space, c.code, r); perfect != want || err != impl.ErrNone {
				t.Errorf("IsPerfect(%v, %v, %d) = %v, %d", c.space, c.code, r, perfect, err)
			}
		}
	}
}

// A perfect code with one word less, one more or another one is not perfect for its radius.
func TestChangedPerfectCodes(t *testing.T) {
	for _, c := range perfectCases(t) {
		if c.radius == 0 || len(c.code) == 1 {
			continue
		}
		others, _ := impl.OppositeCode(c.space, c.code)
		for _, u := range []int64{others[0], others[len(others)-1]} {
			more := slices.Sorted(slices.Values(append(slices.Clone(c.code), u)))
			moved := slices.Sorted(slices.Values(append(slices.Clone(c.code[1:]), u)))
			for _, code := range [][]int64{c.code[1:], c.code[:len(c.code)-1], more, moved} {
				perfect, err := impl.IsPerfect(c.space, code, c.radius)
				if (coverCase{c.space, c.table, code}).isPerfect(c.radius) || perfect || err != impl.ErrNone {
					t.Errorf("IsPerfect(%v, %v, %d) = %v, %d", c.space, code, c.radius, perfect, err)
				}
				fails(t, "DecodeWord", number(impl.DecodeWord(c.space, code, c.radius, u)), impl.ErrState)
			}
		}
	}
}

// checkDecoded expects that each word is decoded to the only word of the code within r.
func checkDecoded(t *testing.T, c coverCase, r int64) {
	t.Helper()
	for w := 0; w < len(c.table); w += 1 + len(c.table)/100 {
		near := slices.DeleteFunc(slices.Clone(c.code), func(u int64) bool { return c.table[w][u] > r })
		decoded, err := impl.DecodeWord(c.space, c.code, r, int64(w))
		if !slices.Equal([]int64{decoded}, near) || err != impl.ErrNone {
			t.Errorf("DecodeWord(%v, %v, %d, %d) = %d, %d instead of %v", c.space, c.code, r, w, decoded, err, near)
		}
		if nearest, err := impl.NearestWords(c.space, c.code, int64(w)); !slices.Equal(nearest, near) || err != impl.ErrNone {
			t.Errorf("NearestWords(%v, %v, %d) = %v, %d", c.space, c.code, w, nearest, err)
		}
	}
}

func TestDecodedWords(t *testing.T) {
	for _, c := range perfectCases(t) {
		checkDecoded(t, c.coverCase, c.radius)
		if len(c.code) == 1 {
			checkDecoded(t, c.coverCase, impl.MaxPlaces)
		}
		// Words of the code are decoded to themselves.
		for _, w := range c.code[:min(len(c.code), 20)] {
			if decoded, err := impl.DecodeWord(c.space, c.code, c.radius, w); decoded != w || err != impl.ErrNone {
				t.Errorf("DecodeWord(%v, %v, %d, %d) = %d, %d", c.space, c.code, c.radius, w, decoded, err)
			}
		}
	}
}

func TestPerfectCodesOfNoWords(t *testing.T) {
	for _, s := range append(smallSpaces(t), largeSpaces(t)...) {
		for _, code := range [][]int64{nil, {}} {
			for r := range int64(impl.MaxPlaces + 1) {
				fails(t, "IsPerfect", yesOrNo(impl.IsPerfect(s, code, r)), impl.ErrNone)
				fails(t, "DecodeWord", number(impl.DecodeWord(s, code, r, 0)), impl.ErrState)
				fails(t, "DecodeWord", number(impl.DecodeWord(s, code, r, 1)), impl.ErrState)
			}
			fails(t, "PerfectRadius", number(impl.PerfectRadius(s, code)), impl.ErrNotFound)
		}
	}
}

func TestPerfectCodesWrittenOut(t *testing.T) {
	for _, c := range []struct {
		sizes, code []int64
		radius      int64 // -1 if there is none
	}{
		{[]int64{2}, []int64{0}, 1}, {[]int64{2}, []int64{1}, 1}, {[]int64{2}, []int64{0, 1}, 0}, {[]int64{4}, []int64{3}, 1}, {[]int64{4}, []int64{0, 3}, -1},
		{[]int64{2, 2}, []int64{0, 3}, -1}, {[]int64{2, 2}, []int64{2}, 2}, {[]int64{2, 2, 2}, []int64{2, 5}, 1}, {[]int64{2, 2, 2}, []int64{0, 6}, -1},
		{[]int64{2, 2, 2}, []int64{0, 3, 5, 6}, -1}, {[]int64{2, 2, 2, 2}, []int64{0, 15}, -1}, {[]int64{3, 2}, []int64{5}, 2}, {[]int64{3, 4}, []int64{0, 11}, -1},
		{[]int64{2, 2, 2, 2, 2, 2, 2, 2}, []int64{0, 255}, -1}, {[]int64{2, 2, 2, 2, 2, 2, 2, 2}, []int64{77}, impl.MaxPlaces},
	} {
		s := space(t, c.sizes...)
		radius, err := impl.PerfectRadius(s, c.code)
		if c.radius < 0 {
			fails(t, "PerfectRadius", number(radius, err), impl.ErrNotFound)
		} else if radius != c.radius || err != impl.ErrNone {
			t.Errorf("PerfectRadius(%v, %v) = %d, %d", s, c.code, radius, err)
		}
	}
	for w, want := range []int64{0, 0, 0, 7, 0, 7, 7, 7} {
		if decoded, err := impl.DecodeWord(space(t, 2, 2, 2), []int64{0, 7}, 1, int64(w)); decoded != want || err != impl.ErrNone {
			t.Errorf("DecodeWord(%d) = %d, %d", w, decoded, err)
		}
	}
}

// The tests above would miss much if all perfect codes were of one kind.
func TestPerfectCasesAreDifferent(t *testing.T) {
	for _, c := range perfectCases(t) {
		if c.leastPerfect() != c.radius {
			t.Errorf("%v, %v is perfect for %d, and not for %d", c.space, c.code, c.leastPerfect(), c.radius)
		}
	}
	counts := map[string]int{}
	for _, c := range coverCases(t) {
		for _, r := range c.radii() {
			_, err := impl.ExcessOf(c.space, c.code, r)
			switch {
			case c.isPerfect(r) && len(c.code) > 1 && r > 0:
				counts["perfect"]++
			case err == impl.ErrNone && !c.isPerfect(r):
				counts["covers, but not perfect"]++
			case err != impl.ErrNone && len(c.code) > 0 && !slices.ContainsFunc(c.times(r), func(times int64) bool { return times > 1 }):
				counts["no word twice, but does not cover"]++
			}
		}
	}
	if len(counts) != 3 {
		t.Errorf("the codes have only these: %v", counts)
	}
}

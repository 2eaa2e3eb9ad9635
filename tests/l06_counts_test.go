package tests

import (
	"math/bits"
	"slices"
	"testing"

	"loop.example/g01411/impl"
)

// nearSets has for each word of a space of up to 64 words a bit for each word within r of it.
func nearSets(table [][]int64, r int64) []uint64 {
	near := []uint64{}
	for _, distances := range table {
		set := uint64(0)
		for w, d := range distances {
			if d <= r {
				set |= 1 << w
			}
		}
		near = append(near, set)
	}
	return near
}

// partingCodes tries all codes in lexicographic order whose words have no word near two of them, from
// the word next on, and returns those that have all words of the space near them.
func partingCodes(near []uint64, taken uint64, next int) [][]int64 {
	if bits.OnesCount64(taken) == len(near) {
		return [][]int64{{}}
	}
	codes := [][]int64{}
	for w := next; w < len(near); w++ {
		if taken&near[w] != 0 {
			continue
		}
		for _, rest := range partingCodes(near, taken|near[w], w+1) {
			codes = append(codes, append([]int64{int64(w)}, rest...))
		}
	}
	return codes
}

// checkCounted holds the number of perfect codes and the first one against the list of all.
func checkCounted(t *testing.T, s impl.Space, r int64, want [][]int64) {
	t.Helper()
	count, err := impl.CountPerfect(s, r)
	if count != int64(len(want)) || err != impl.ErrNone {
		t.Errorf("CountPerfect(%v, %d) = %d, %d instead of %d", s, r, count, err, len(want))
	}
	code, err := impl.FirstPerfect(s, r)
	if len(want) == 0 {
		fails(t, "FirstPerfect", list(code, err), impl.ErrNotFound)
		return
	}
	checkCode(t, "FirstPerfect", code, err, slices.MinFunc(want, slices.Compare))
	if perfect, err := impl.IsPerfect(s, code, r); !perfect || err != impl.ErrNone {
		t.Errorf("IsPerfect(%v, %v, %d) = %v, %d", s, code, r, perfect, err)
	}
	if excess, err := impl.ExcessOf(s, code, r); excess != 0 || err != impl.ErrNone {
		t.Errorf("ExcessOf(%v, %v, %d) = %d, %d", s, code, r, excess, err)
	}
}

// Of the spaces of few words, all codes are asked whether they are perfect.
func TestPerfectCodesAmongAll(t *testing.T) {
	for _, s := range spacesUpTo(t, 12) {
		table := distanceTable(s)
		for r := int64(1); r <= impl.MaxPlaces; r++ {
			want := [][]int64{}
			for _, code := range allCodes(int64(len(table))) {
				if (coverCase{s, table, code}).isPerfect(r) {
					want = append(want, code)
				}
			}
			checkCounted(t, s, r, want)
		}
	}
}

func TestPerfectCodesOfAllSpaces(t *testing.T) {
	for _, s := range spacesUpTo(t, impl.MaxPerfect) {
		table := distanceTable(s)
		for r := int64(1); r <= impl.MaxPlaces; r++ {
			checkCounted(t, s, r, partingCodes(nearSets(table, r), 0, 0))
		}
	}
}

// Perfect codes have the least number of words of those that cover, the greatest number of those that
// are apart, and as many as both ball bounds.
func TestPerfectCodesHaveAsManyWordsAsBounds(t *testing.T) {
	for _, s := range spacesUpTo(t, impl.MaxPerfect) {
		for r := int64(1); r <= impl.MaxPlaces/2; r++ {
			code, err := impl.FirstPerfect(s, r)
			if err != impl.ErrNone {
				continue
			}
			bound, _ := impl.BallBound(s, r)
			packing, _ := impl.PackingBound(s, 2*r+1)
			areApart, err := impl.AreApart(s, code, 2*r+1)
			if words := int64(len(code)); bound != words || packing != words || !areApart || err != impl.ErrNone {
				t.Errorf("%v, %d, %v: bounds %d and %d, apart %v, %d", s, r, code, bound, packing, areApart, err)
			}
			if n, _ := impl.CountWords(s); n > impl.MaxSought {
				continue
			}
			first, _ := impl.FirstCover(s, r)
			checkCode(t, "FirstPerfect", code, impl.ErrNone, first)
			first, _ = impl.FirstApart(s, 2*r+1)
			checkCode(t, "FirstPerfect", code, impl.ErrNone, first)
		}
	}
}

func TestPerfectCodesCounted(t *testing.T) {
	for _, c := range []struct {
		sizes    []int64
		r, count int64
		first    []int64
	}{
		{[]int64{2}, 1, 2, []int64{0}}, {[]int64{3}, 1, 3, []int64{0}}, {[]int64{4}, 8, 4, []int64{0}},
		{[]int64{2, 2}, 1, 0, nil}, {[]int64{2, 2}, 2, 4, []int64{0}}, {[]int64{3, 4}, 1, 0, nil},
		{[]int64{2, 2, 2}, 1, 4, []int64{0, 7}}, {[]int64{2, 2, 2}, 2, 0, nil}, {[]int64{2, 2, 2}, 3, 8, []int64{0}},
		{[]int64{2, 2, 2, 2, 2}, 1, 0, nil}, {[]int64{2, 2, 2, 2, 2}, 2, 16, []int64{0, 31}}, {[]int64{2, 2, 2, 2, 2}, 8, 32, []int64{0}},
		{[]int64{2, 2, 2, 2, 4}, 1, 48, []int64{0, 13, 22, 27, 39, 42, 49, 60}}, {[]int64{2, 4, 2, 2, 2}, 1, 48, []int64{0, 11, 21, 30, 39, 44, 50, 57}},
		{[]int64{2, 2, 2, 2, 2, 2}, 1, 0, nil}, {[]int64{2, 2, 2, 2, 2, 2}, 6, 64, []int64{0}}, {[]int64{4, 4, 4}, 2, 0, nil}, {[]int64{4, 4, 4}, 3, 64, []int64{0}},
	} {
		s := space(t, c.sizes...)
		count, err := impl.CountPerfect(s, c.r)
		if count != c.count || err != impl.ErrNone {
			t.Errorf("CountPerfect(%v, %d) = %d, %d instead of %d", s, c.r, count, err, c.count)
		}
		code, err := impl.FirstPerfect(s, c.r)
		if c.count == 0 {
			fails(t, "FirstPerfect", list(code, err), impl.ErrNotFound)
		} else {
			checkCode(t, "FirstPerfect", code, err, c.first)
		}
	}
}

// failCounted expects an error of the functions that count perfect codes.
func failCounted(t *testing.T, s impl.Space, r int64, want int64) {
	t.Helper()
	fails(t, "CountPerfect", number(impl.CountPerfect(s, r)), want)
	fails(t, "FirstPerfect", list(impl.FirstPerfect(s, r)), want)
}

func TestPerfectCodesNotCounted(t *testing.T) {
	for _, s := range noSpaces() {
		for _, r := range append(noRadii(), 0, 1, impl.MaxPlaces) {
			failCounted(t, s, r, impl.ErrInvalid)
		}
	}
	// In the large spaces nothing is counted, but ErrRange comes before ErrLimit.
	for _, s := range append(smallSpaces(t), largeSpaces(t)...) {
		for _, r := range append(noRadii(), 0) {
			failCounted(t, s, r, impl.ErrRange)
		}
	}
}

func TestPerfectCodesBeyondTheLimit(t *testing.T) {
	if impl.MaxPerfect != 64 {
		t.Errorf("MaxPerfect = %d", impl.MaxPerfect)
	}
	// No product of sizes is from 65 to 71. For all radii from the number of places on each word alone
	// is perfect, but there are too many of them.
	beyond := []impl.Space{space(t, 2, 3, 3, 4), space(t, 3, 3, 2, 2, 2), space(t, 3, 3, 3, 3), space(t, 2, 2, 2, 2, 2, 2, 2)}
	for _, s := range append(beyond, largeSpaces(t)...) {
		for r := int64(1); r <= impl.MaxPlaces; r++ {
			failCounted(t, s, r, impl.ErrLimit)
		}
	}
}

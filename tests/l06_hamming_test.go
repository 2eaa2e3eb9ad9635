package tests

import (
	"slices"
	"testing"

	"loop.example/g01411/impl"
)

// columnsByHand takes, of all lists of m digits in their order, those whose first digit other than 0
// is 1.
func columnsByHand(q int64, m int64) [][]int64 {
	columns := [][]int64{}
	for _, digits := range digitLists(slices.Repeat([]int64{q}, int(m))) {
		first := slices.IndexFunc(digits, func(d int64) bool { return d != 0 })
		if first >= 0 && digits[first] == 1 {
			columns = append(columns, digits)
		}
	}
	return columns
}

// hammingByHand takes, of all words of so many places, those by which the columns have the sum 0.
func hammingByHand(q int64, columns [][]int64) ([]int64, []int64) {
	sizes, code := slices.Repeat([]int64{q}, len(columns)), []int64{}
	for w, digits := range digitLists(sizes) {
		sums := make([]int64, len(columns[0]))
		for i, column := range columns {
			for k, d := range column {
				sums[k] += digits[i] * d
			}
		}
		if !slices.ContainsFunc(sums, func(sum int64) bool { return sum%q != 0 }) {
			code = append(code, int64(w))
		}
	}
	return sizes, code
}

func areEqualLists(x [][]int64, y [][]int64) bool {
	return slices.EqualFunc(x, y, slices.Equal[[]int64])
}

func TestHammingColumns(t *testing.T) {
	for _, c := range []struct{ q, m, count int64 }{{2, 1, 1}, {2, 2, 3}, {2, 3, 7}, {3, 1, 1}, {3, 2, 4}} {
		columns, err := impl.ColumnsFor(c.q, c.m)
		if !areEqualLists(columns, columnsByHand(c.q, c.m)) || int64(len(columns)) != c.count || err != impl.ErrNone {
			t.Errorf("ColumnsFor(%d, %d) = %v, %d", c.q, c.m, columns, err)
		}
		if c.count != (power(c.q, c.m)-1)/(c.q-1) {
			t.Errorf("ColumnsFor(%d, %d) has %d columns", c.q, c.m, c.count)
		}
	}
}

func TestHammingColumnsWrittenOut(t *testing.T) {
	for _, c := range []struct {
		q, m int64
		want [][]int64
	}{
		{2, 1, [][]int64{{1}}}, {3, 1, [][]int64{{1}}},
		{2, 2, [][]int64{{0, 1}, {1, 0}, {1, 1}}},
		{3, 2, [][]int64{{0, 1}, {1, 0}, {1, 1}, {1, 2}}},
		{2, 3, [][]int64{{0, 0, 1}, {0, 1, 0}, {0, 1, 1}, {1, 0, 0}, {1, 0, 1}, {1, 1, 0}, {1, 1, 1}}},
	} {
		if columns, err := impl.ColumnsFor(c.q, c.m); !areEqualLists(columns, c.want) || err != impl.ErrNone {
			t.Errorf("ColumnsFor(%d, %d) = %v, %d instead of %v", c.q, c.m, columns, err, c.want)
		}
	}
}

// Hamming codes are perfect for 1.
func TestHammingCodes(t *testing.T) {
	for _, c := range []struct{ q, m int64 }{{2, 2}, {2, 3}, {3, 2}} {
		columns := columnsByHand(c.q, c.m)
		sizes, want := hammingByHand(c.q, columns)
		s, code, err := impl.HammingCode(c.q, c.m)
		checkBuilt(t, "HammingCode", s, code, err, sizes, want)
		if perfect, err := impl.IsPerfect(s, code, 1); !perfect || err != impl.ErrNone {
			t.Errorf("IsPerfect(%v, %v, 1) = %v, %d", s, code, perfect, err)
		}
		if radius, err := impl.PerfectRadius(s, code); radius != 1 || err != impl.ErrNone {
			t.Errorf("PerfectRadius(%v, %v) = %d, %d", s, code, radius, err)
		}
		if !(coverCase{s, distanceTable(s), code}).isPerfect(1) {
			t.Errorf("%v, %v is not perfect for 1", s, code)
		}
		checkHamming(t, s, code, c.m)
	}
}

// checkHamming expects what chapters 1, 2 and 5 tell of a Hamming code: it is linear, its words are 3
// apart, it has no excess, and those of the dual code, but 0, have all the same weight.
func checkHamming(t *testing.T, s impl.Space, code []int64, m int64) {
	t.Helper()
	n, q := int64(len(s.Sizes)), s.Sizes[0]
	checkLinear(t, s, code, true)
	dimension, err := impl.DimensionOf(s, code)
	if dimension != n-m || err != impl.ErrNone {
		t.Errorf("DimensionOf(%v, %v) = %d, %d", s, code, dimension, err)
	}
	least, _ := impl.LeastDistance(s, code)
	excess, err := impl.ExcessOf(s, code, 1)
	if least != 3 || excess != 0 || err != impl.ErrNone {
		t.Errorf("%v, %v: the least distance is %d, the excess %d, %d", s, code, least, excess, err)
	}
	want := make([]int64, n+1)
	want[0], want[power(q, m-1)] = 1, power(q, m)-1
	counts, err := impl.DualCounts(s, code)
	checkCode(t, "DualCounts of a Hamming code", counts, err, want)
}

func TestHammingCodesWrittenOut(t *testing.T) {
	for _, c := range []struct {
		q, m        int64
		sizes, code []int64
	}{
		{2, 2, []int64{2, 2, 2}, []int64{0, 7}},
		{3, 2, []int64{3, 3, 3, 3}, []int64{0, 13, 26, 32, 42, 46, 61, 65, 75}},
		{2, 3, []int64{2, 2, 2, 2, 2, 2, 2}, []int64{0, 15, 22, 25, 37, 42, 51, 60, 67, 76, 85, 90, 102, 105, 112, 127}},
	} {
		s, code, err := impl.HammingCode(c.q, c.m)
		checkBuilt(t, "HammingCode", s, code, err, c.sizes, c.code)
	}
}

// Words with one digit changed are decoded to the words that they come from.
func TestHammingCodesCorrect(t *testing.T) {
	for _, c := range []struct{ q, m int64 }{{2, 2}, {2, 3}, {3, 2}} {
		s, code, _ := impl.HammingCode(c.q, c.m)
		for _, w := range code {
			for i := range s.Sizes {
				for d := range c.q {
					wrong, _ := impl.ChangeDigit(s, w, int64(i), d)
					if decoded, err := impl.DecodeWord(s, code, 1, wrong); decoded != w || err != impl.ErrNone {
						t.Errorf("DecodeWord(%v, %v, 1, %d) = %d, %d instead of %d", s, code, wrong, decoded, err, w)
					}
				}
			}
		}
	}
}

func lists(x [][]int64, code int64) answer { return answer{len(x) == 0, code} }

func TestColumnsOfOtherNumbers(t *testing.T) {
	// There are more than MaxPlaces columns for 3 and 3, but ErrRange comes before ErrLimit.
	for _, x := range append(noWords(4), 0, 5, 64) {
		for _, y := range append(noWords(4), 0, 1, 2, 3) {
			fails(t, "ColumnsFor", lists(impl.ColumnsFor(x, y)), impl.ErrRange)
			fails(t, "ColumnsFor", lists(impl.ColumnsFor(y, x)), impl.ErrRange)
			fails(t, "HammingCode", built(impl.HammingCode(x, y)), impl.ErrRange)
			fails(t, "HammingCode", built(impl.HammingCode(y, x)), impl.ErrRange)
		}
	}
	for m := range int64(5) {
		fails(t, "ColumnsFor", lists(impl.ColumnsFor(1, m)), impl.ErrRange)
		fails(t, "HammingCode", built(impl.HammingCode(1, m)), impl.ErrRange)
	}
	for q := range int64(5) {
		fails(t, "HammingCode", built(impl.HammingCode(q, 1)), impl.ErrRange)
	}
}

func TestColumnsBeyondTheLimit(t *testing.T) {
	if count := len(columnsByHand(3, 3)); count <= impl.MaxPlaces {
		t.Errorf("%d columns", count)
	}
	fails(t, "ColumnsFor", lists(impl.ColumnsFor(3, 3)), impl.ErrLimit)
	fails(t, "HammingCode", built(impl.HammingCode(3, 3)), impl.ErrLimit)
}

// No column may share memory with another one, also not by what is behind it.
func TestColumnsAreNewMemory(t *testing.T) {
	for _, c := range []struct{ q, m int64 }{{2, 1}, {3, 1}, {2, 2}, {3, 2}, {2, 3}} {
		want := columnsByHand(c.q, c.m)
		for k := range want {
			columns, _ := impl.ColumnsFor(c.q, c.m)
			fill(columns[k])
			for i, column := range columns {
				if i != k && !slices.Equal(column, want[i]) {
					t.Errorf("ColumnsFor(%d, %d): the columns %d and %d share memory", c.q, c.m, k, i)
				}
			}
		}
		if columns, err := impl.ColumnsFor(c.q, c.m); !areEqualLists(columns, want) || err != impl.ErrNone {
			t.Errorf("ColumnsFor(%d, %d) = %v, %d", c.q, c.m, columns, err)
		}
	}
}

func TestHammingCodesAreNewMemory(t *testing.T) {
	sizes, want := hammingByHand(3, columnsByHand(3, 2))
	s, code, _ := impl.HammingCode(3, 2)
	fill(s.Sizes)
	if !slices.Equal(code, want) {
		t.Errorf("the code shares memory with the sizes: %v", code)
	}
	s, code, _ = impl.HammingCode(3, 2)
	fill(code)
	if !slices.Equal(s.Sizes, sizes) {
		t.Errorf("the sizes share memory with the code: %v", s)
	}
	s, code, err := impl.HammingCode(3, 2)
	checkBuilt(t, "HammingCode", s, code, err, sizes, want)
}

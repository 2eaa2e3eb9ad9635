package tests

import (
	"slices"
	"testing"

	"loop.example/g01411/impl"
)

// space makes a space of sizes, and fails the test if there is none.
func space(t *testing.T, sizes ...int64) impl.Space {
	t.Helper()
	s := impl.Space{Sizes: sizes}
	if !impl.IsSpace(s) {
		t.Fatalf("IsSpace(%v) = false", sizes)
	}
	return s
}

// smallSpaces are few enough words for tests of all triples of words.
func smallSpaces(t *testing.T) []impl.Space {
	return []impl.Space{
		space(t, 2), space(t, 3), space(t, 4),
		space(t, 2, 3), space(t, 4, 2), space(t, 3, 3),
		space(t, 2, 2, 2), space(t, 2, 3, 4), space(t, 4, 3, 2), space(t, 3, 2, 2, 3),
	}
}

// largeSpaces have the greatest numbers of places, signs and words.
func largeSpaces(t *testing.T) []impl.Space {
	return []impl.Space{
		space(t, 2, 2, 2, 2, 2, 2, 2, 2),
		space(t, 4, 2, 2, 2, 2, 2, 2, 4),
		space(t, 3, 2, 3, 2, 3, 2, 2, 2),
		space(t, 4, 4, 4, 4, 4),
		space(t, 2, 3, 4, 4, 3),
	}
}

// noSpaces are no spaces, each for another reason.
func noSpaces() []impl.Space {
	return []impl.Space{
		{},
		{Sizes: []int64{}},
		{Sizes: []int64{1}},
		{Sizes: []int64{0}},
		{Sizes: []int64{-2, -2}},
		{Sizes: []int64{5}},
		{Sizes: []int64{2, 1}},
		{Sizes: []int64{5, 2}},
		{Sizes: []int64{1 << 62, 4, 4}},
		{Sizes: []int64{-1 << 63}},
		{Sizes: []int64{1<<63 - 1}},
		{Sizes: []int64{2, 2, 2, 2, 2, 2, 2, 2, 2}},
		{Sizes: []int64{4, 4, 4, 2, 3, 3}},
		{Sizes: []int64{4, 4, 4, 4, 4, 2}},
		{Sizes: []int64{4, 4, 4, 4, 4, 4, 4, 4}},
		{Sizes: make([]int64, 70)},
		{Sizes: slices.Repeat([]int64{2}, 64)},
	}
}

// digitLists counts through the digits of all words, the last place fastest.
func digitLists(sizes []int64) [][]int64 {
	lists := [][]int64{{}}
	for _, q := range sizes {
		longer := [][]int64{}
		for _, list := range lists {
			for d := range q {
				longer = append(longer, append(slices.Clone(list), d))
			}
		}
		lists = longer
	}
	return lists
}

// apart counts the places at which lists of digits are different.
func apart(x []int64, y []int64) int64 {
	n := int64(0)
	for i := range x {
		if x[i] != y[i] {
			n++
		}
	}
	return n
}

// upTo returns the numbers from 0 to n - 1.
func upTo(n int64) []int64 {
	list := []int64{}
	for i := range n {
		list = append(list, i)
	}
	return list
}

// withSpare returns a copy of a list with space behind it that a function must leave as it is.
func withSpare(list []int64) []int64 {
	whole := append(slices.Clone(list), -77, -78, -79)
	return whole[:len(list)]
}

// isUntouched reports whether a list from withSpare still has its elements and what is behind.
func isUntouched(list []int64, want []int64) bool {
	return slices.Equal(list[:len(list)+3], append(slices.Clone(want), -77, -78, -79))
}

// checkNewMemory writes into the list that a call returns: the same call must return it again as
// it was. The list must not be empty.
func checkNewMemory(t *testing.T, name string, call func() []int64) {
	t.Helper()
	first := call()
	want := slices.Clone(first)
	for i := range first {
		first[i] = -5
	}
	if second := call(); len(want) == 0 || !slices.Equal(second, want) {
		t.Errorf("%s: %v, and then %v", name, want, second)
	}
}

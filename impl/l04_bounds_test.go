package impl

import (
	"slices"
	"testing"
)

// Words that all cover the same lead to few covers, though there are many codes of them: where a
// known cover would be tried again, this search would not end.
func TestKnownCoversAreNotTriedAgain(t *testing.T) {
	calls := 0
	x := search{sets: slices.Repeat([]wordSet{setOf([]int64{0})}, 40)}
	x.leadsOn = func(_ cover, to cover) bool {
		calls++
		if calls > 40*40*40 {
			t.Fatal("known covers are tried again")
		}
		return to.left > 0
	}
	if code := x.first(20); code != nil {
		t.Errorf("first(20) = %v", code)
	}
}

// Covers of as many words by other ones, or with another word to be tried next, are different.
func TestCoversAreDifferent(t *testing.T) {
	c := cover{words: setOf([]int64{1, 1023}), next: 2, left: 3}
	known := map[cover]bool{c: true}
	for _, other := range []cover{
		{}, {words: c.words, next: 2, left: 4}, {words: c.words, next: 3, left: 3}, {words: setOf([]int64{1, 1022}), next: 2, left: 3},
	} {
		if known[other] {
			t.Errorf("%v is known", other)
		}
	}
	if !known[cover{words: setOf([]int64{1023, 1}), next: 2, left: 3}] {
		t.Errorf("%v is not known", c)
	}
}

// With too few words, or too many, there is nothing to be found.
func TestSearches(t *testing.T) {
	whole := setOf([]int64{0, 1, 2, 3})
	x := search{
		sets:    []wordSet{setOf([]int64{0, 1}), setOf([]int64{1}), setOf([]int64{1, 2}), setOf([]int64{2, 3})},
		leadsOn: func(_ cover, to cover) bool { return to.left > 0 || to.words == whole },
	}
	for count, want := range [][]int64{2: {0, 3}, 3: {0, 1, 3}, 4: {0, 1, 2, 3}, 6: nil} {
		if code := x.first(int64(count)); count > 0 && !slices.Equal(code, want) {
			t.Errorf("first(%d) = %v", count, code)
		}
	}
}

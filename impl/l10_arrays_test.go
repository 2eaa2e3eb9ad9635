package impl

import (
	"slices"
	"testing"
)

// spacesOf calls ask with all spaces whose first sizes are those of s.
func spacesOf(s Space, ask func(Space)) {
	for q := int64(leastSize); q <= greatestSize; q++ {
		longer := Space{Sizes: append(slices.Clone(s.Sizes), q)}
		if IsSpace(longer) {
			ask(longer)
			spacesOf(longer, ask)
		}
	}
}

// The choices of each space have indices that a set of words can have.
func TestChoicesFitIntoSets(t *testing.T) {
	greatest := 0
	spacesOf(Space{}, func(s Space) {
		for places := range greatestStrength(s) {
			greatest = max(greatest, len(choicesOf(s, places+1)))
		}
	})
	if greatest != 832 || greatest > MaxWords {
		t.Errorf("a space has %d choices", greatest)
	}
}

// All choices are parts of one list: an append to places leaves the digits as they are, and one to
// digits the next choice.
func TestChoicesEndWhereTheNextOnesBegin(t *testing.T) {
	s := Space{Sizes: []int64{2, 3, 4, 2}}
	for places := range greatestStrength(s) {
		want := []int64{}
		for _, c := range choicesOf(s, places+1) {
			want = append(append(want, c.places...), c.digits...)
		}
		choices := choicesOf(s, places+1)
		for _, c := range choices {
			_ = append(c.places, -1)
			_ = append(c.digits, -1)
		}
		all := []int64{}
		for _, c := range choices {
			all = append(append(all, c.places...), c.digits...)
		}
		if !slices.Equal(all, want) {
			t.Errorf("the choices of %d places are changed: %v", places+1, all)
		}
	}
}

// Of a list that tells no choice, the rules before the one that it does not keep are kept.
func TestRulesOfChoices(t *testing.T) {
	s := Space{Sizes: []int64{2, 3, 4, 2}}
	for _, c := range []struct {
		list []int64
		kept int
	}{
		{nil, 0}, {[]int64{0}, 0}, {[]int64{0, 1, 2, 3, 0, 0, 0, 0}, 0}, {make([]int64, 600), 0},
		{[]int64{4, 0}, 1}, {[]int64{-1, 0}, 1}, {[]int64{1, 1, 0, 0}, 1}, {[]int64{2, 1, 0, 0}, 1}, {[]int64{0, 9, 0, 0}, 1},
		{[]int64{0, 2}, 2}, {[]int64{0, -1}, 2}, {[]int64{0, 1, 1, 3}, 2}, {[]int64{0, 1, 2, 1, 2, 4}, 2},
		{[]int64{0, 1, 1}, 2}, {[]int64{0, 1, 2, 1, 2, 3, 0}, 2},
		{[]int64{3, 1}, 3}, {[]int64{0, 1, 1, 2}, 3}, {[]int64{0, 1, 2, 1, 2, 3}, 3},
	} {
		told, kept := choiceOf(s, c.list), 0
		for _, isKept := range rulesOfChoices() {
			if !isKept(told) {
				break
			}
			kept++
		}
		if kept != c.kept {
			t.Errorf("%v keeps %d rules instead of %d", c.list, kept, c.kept)
		}
	}
}

package impl

import (
	"slices"
	"testing"
)

// A loop over balls may be left at any of them: no more may be handed out then.
func TestBallsLeftEarly(t *testing.T) {
	s := Space{Sizes: []int64{2, 3}}
	for stop := range allWords(s) {
		count := 0
		for ball := range balls(s, allWords(s), 1) {
			count++
			if !ball.has(int64(count-1)) || ball.countBeyond(wordSet{}) != 4 {
				t.Errorf("ball %d: %v", count-1, ball)
			}
			if count == stop+1 {
				break
			}
		}
		if count != stop+1 {
			t.Errorf("%d balls instead of %d", count, stop+1)
		}
	}
}

// Sets that are put together are values: none of the old ones changes.
func TestSetsAreValues(t *testing.T) {
	x, y := wordSet{}, wordSet{}
	x.put(0)
	y.put(MaxWords - 1)
	both := x.with(y)
	if both == x || both == y || x == y || x.has(MaxWords-1) || !both.has(0) || !both.has(MaxWords-1) {
		t.Errorf("%v and %v make %v", x, y, both)
	}
	if both.countBeyond(x) != 1 || x.countBeyond(both) != 0 || both.countBeyond(wordSet{}) != 2 {
		t.Errorf("words of %v are counted wrongly", both)
	}
	if !both.meets(x) || !both.meets(y) || x.meets(y) || y.meets(x) || both.meets(wordSet{}) || (wordSet{}).meets(wordSet{}) {
		t.Errorf("%v and %v meet wrongly", x, y)
	}
}

// Greedy rounds may be left after any of them: no more may be handed out then.
func TestGreedyRoundsLeftEarly(t *testing.T) {
	sets := []wordSet{setOf([]int64{0, 1}), setOf([]int64{1, 2, 3}), setOf([]int64{4, 900}), setOf([]int64{0, 5, 6})}
	whole := together(slices.Values(sets))
	all := slices.Collect(greedyRounds(sets, whole))
	if !slices.Equal(all, []int64{1, 3, 2}) {
		t.Errorf("rounds %v", all)
	}
	for stop := range all {
		rounds := []int64{}
		for k := range greedyRounds(sets, whole) {
			rounds = append(rounds, k)
			if len(rounds) == stop+1 {
				break
			}
		}
		if !slices.Equal(rounds, all[:stop+1]) {
			t.Errorf("left after %d rounds: %v", stop+1, rounds)
		}
	}
	if none := slices.Collect(greedyRounds(nil, wordSet{})); len(none) != 0 {
		t.Errorf("rounds without sets: %v", none)
	}
}

// As many sets as may be taken are no error, and one more is.
func TestGreedyRoundsUpToALimit(t *testing.T) {
	sets := []wordSet{setOf([]int64{0, 1}), setOf([]int64{1, 2, 3}), setOf([]int64{4, 900}), setOf([]int64{0, 5, 6})}
	for most := range 6 {
		indices, err := greedyUpTo(sets, most)
		if most < 3 && (len(indices) > 0 || err != ErrLimit) || most >= 3 && (!slices.Equal(indices, []int64{1, 3, 2}) || err != ErrNone) {
			t.Errorf("at most %d sets: %v, %d", most, indices, err)
		}
	}
	if none, err := greedyUpTo(nil, 0); len(none) != 0 || err != ErrNone {
		t.Errorf("no sets: %v, %d", none, err)
	}
}

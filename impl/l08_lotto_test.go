package impl

import (
	"runtime"
	"slices"
	"strconv"
	"testing"
)

// Answers come in the order of the list, in whatever order the goroutines end, and none is lacking.
func TestAnswersAreInOrder(t *testing.T) {
	for _, count := range []int{0, 1, 2, 15, 1000} {
		list := make([]int, count)
		for k := range list {
			list[k] = 3 * k
		}
		answers := askedAtOnce(list, func(x int) string {
			if x%2 == 0 {
				runtime.Gosched()
			}
			return strconv.Itoa(x)
		})
		if len(answers) != count {
			t.Errorf("%d answers instead of %d", len(answers), count)
		}
		for k, answer := range answers {
			if answer != strconv.Itoa(list[k]) {
				t.Errorf("answer %d of %d: %q", k, count, answer)
			}
		}
	}
}

// callLottery calls all functions that ask draws.
func callLottery(l Lottery, tickets []int64) {
	DrawsHit(l)
	TicketBound(l)
	Guarantees(l, tickets)
	FirstMissed(l, tickets)
	CountMissed(l, tickets)
	NeededTickets(l, tickets)
	GreedyTickets(l)
	LeastTickets(l)
}

// No goroutine stays behind a call, whether it has a result or an error.
func TestDrawsLeaveNoGoroutine(t *testing.T) {
	checkNoGoroutineStays(t, func() {
		callLottery(Lottery{Numbers: 12, Picked: 6, Drawn: 6, Hits: 4}, []int64{63, 4032})
		callLottery(Lottery{Numbers: 12, Picked: 6, Drawn: 6, Hits: 6}, nil)
		callLottery(Lottery{Numbers: 5, Picked: 2, Drawn: 2, Hits: 1}, []int64{3, 12})
		callLottery(Lottery{Numbers: 5, Picked: 2, Drawn: 2, Hits: 1}, []int64{12, 3})
	})
}

// Each draw has its bit at its rank, also where one part of a set ends and the next one begins.
func TestSetsOfDraws(t *testing.T) {
	for _, l := range []Lottery{
		{Numbers: 1, Picked: 1, Drawn: 1, Hits: 1}, {Numbers: 8, Picked: 2, Drawn: 5, Hits: 1}, {Numbers: 8, Picked: 5, Drawn: 4, Hits: 3},
		{Numbers: 11, Picked: 11, Drawn: 5, Hits: 5}, {Numbers: 12, Picked: 5, Drawn: 6, Hits: 3},
	} {
		tickets, draws := l.tickets(), l.draws()
		for k, set := range l.hitSets(tickets) {
			for rank := range int64(MaxWords) {
				isHit := rank < int64(len(draws)) && countNumbers(tickets[k]&draws[rank]) >= l.Hits
				if set.has(rank) != isHit {
					t.Fatalf("%v: the ticket %d and the draw with the rank %d: %v", l, tickets[k], rank, set.has(rank))
				}
			}
		}
	}
}

// Sets have room for the draws of each lottery, and for its tickets.
func TestSetsHaveRoomForDraws(t *testing.T) {
	for k := range int64(MaxNumbers + 1) {
		if sets := setsOfNumbers(MaxNumbers, k); len(sets) > MaxWords || !isStrictlyAscending(sets) {
			t.Errorf("%d sets of %d numbers", len(sets), k)
		}
	}
}

// Elements of any kind that has an order come in it, and the list stays as it is.
func TestElementsInOrder(t *testing.T) {
	texts := []string{"e", "b", "d", "a", "c"}
	if chosen := inOrder(texts, []int64{4, 0, 3}); !slices.Equal(chosen, []string{"a", "c", "e"}) {
		t.Errorf("texts %v", chosen)
	}
	if !slices.Equal(texts, []string{"e", "b", "d", "a", "c"}) {
		t.Errorf("the list is %v", texts)
	}
	if chosen := inOrder([]int64{5, 7, 9}, []int64{2, 1}); !slices.Equal(chosen, []int64{7, 9}) {
		t.Errorf("numbers %v", chosen)
	}
	if chosen := inOrder([]int64{5}, nil); len(chosen) != 0 {
		t.Errorf("none is chosen: %v", chosen)
	}
}

// Members of a set may be as great as bits go.
func TestMembersOfSets(t *testing.T) {
	for set, want := range map[int64][]int64{0: {}, 1: {0}, 10: {1, 3}, 4095: {0, 1, 2, 3, 4, 5, 6, 7, 8, 9, 10, 11}, 1 << 62: {62}} {
		if members := membersOf(set); !slices.Equal(members, want) {
			t.Errorf("the members of %d are %v", set, members)
		}
	}
}

package tests

import (
	"slices"
	"testing"

	"loop.example/g01411/impl"
)

// times counts, for each draw, the tickets that hit it, of those with some ranks.
func (c lottoCase) times(ranks []int) []int64 {
	times := make([]int64, len(c.draws))
	for _, rank := range ranks {
		for k := range c.draws {
			if c.hits(rank, k) {
				times[k]++
			}
		}
	}
	return times
}

// missed are the draws that none of the tickets with some ranks hits.
func (c lottoCase) missed(ranks []int) []int64 {
	missed := []int64{}
	for k, count := range c.times(ranks) {
		if count == 0 {
			missed = append(missed, c.draws[k])
		}
	}
	return missed
}

// ticketsAt are the tickets with some ranks.
func (c lottoCase) ticketsAt(ranks []int) []int64 {
	tickets := []int64{}
	for _, rank := range ranks {
		tickets = append(tickets, c.tickets[rank])
	}
	return tickets
}

// rankLists are ranks of tickets of a list: all lists for few tickets, and some for many.
func (c lottoCase) rankLists() [][]int {
	n := len(c.tickets)
	if n <= 6 {
		lists := [][]int{}
		for _, code := range allCodes(int64(n)) {
			ranks := []int{}
			for _, rank := range code {
				ranks = append(ranks, int(rank))
			}
			lists = append(lists, ranks)
		}
		return lists
	}
	most := min(n, impl.MaxTickets)
	lists := [][]int{nil, {0}, {n - 1}, {n / 2}, {0, n - 1}, {n / 3, n / 2}, steps(0, most, 1), steps(n-most, n, 1), steps(1, most, 1)}
	for step := 2; step < 10; step++ {
		lists = append(lists, steps(step/2, min(n, most*step), step))
	}
	return lists
}

// steps are the numbers from first on, below end, each greater than the one before by the same step.
func steps(first int, end int, step int) []int {
	list := []int{}
	for k := first; k < end; k += step {
		list = append(list, k)
	}
	return list
}

// checkMissed holds what a list of tickets misses against all draws.
func checkMissed(t *testing.T, c lottoCase, ranks []int) {
	t.Helper()
	tickets, missed := c.ticketsAt(ranks), c.missed(ranks)
	count, err := impl.CountMissed(c.lottery, tickets)
	if count != int64(len(missed)) || err != impl.ErrNone {
		t.Errorf("CountMissed(%v, %v) = %d, %d instead of %d", c.lottery, tickets, count, err, len(missed))
	}
	if yes, err := impl.Guarantees(c.lottery, tickets); yes != (len(missed) == 0) || err != impl.ErrNone {
		t.Errorf("Guarantees(%v, %v) = %v, %d, and there are missed %v", c.lottery, tickets, yes, err, missed)
	}
	if len(missed) == 0 {
		fails(t, "FirstMissed", number(impl.FirstMissed(c.lottery, tickets)), impl.ErrNotFound)
		return
	}
	if draw, err := impl.FirstMissed(c.lottery, tickets); draw != missed[0] || err != impl.ErrNone {
		t.Errorf("FirstMissed(%v, %v) = %d, %d instead of %d", c.lottery, tickets, draw, err, missed[0])
	}
}

func TestMissedDraws(t *testing.T) {
	all, none, some := 0, 0, 0
	for _, c := range lottoCases(6) {
		for _, ranks := range c.rankLists() {
			checkMissed(t, c, ranks)
			switch missed := len(c.missed(ranks)); missed {
			case 0:
				none++
			case len(c.draws):
				all++
			default:
				some++
			}
		}
	}
	if all == 0 || none == 0 || some == 0 {
		t.Errorf("of the lists here, %d miss all draws, %d none and %d some", all, none, some)
	}
}

// needed are the tickets without which, each alone, more draws are missed.
func (c lottoCase) needed(t *testing.T, ranks []int) []int64 {
	t.Helper()
	needed := []int64{}
	times, before := c.times(ranks), len(c.missed(ranks))
	for i, rank := range ranks {
		isNeeded := false
		for k, count := range times {
			isNeeded = isNeeded || count == 1 && c.hits(rank, k)
		}
		if isNeeded {
			needed = append(needed, c.tickets[rank])
		}
		if len(ranks) > 30 {
			continue
		}
		if after := len(c.missed(slices.Delete(slices.Clone(ranks), i, i+1))); isNeeded != (after > before) {
			t.Fatalf("the test is wrong about the ticket %d of %v in %v", c.tickets[rank], c.ticketsAt(ranks), c.lottery)
		}
	}
	return needed
}

func TestNeededTickets(t *testing.T) {
	counts := map[string]int{}
	for _, c := range lottoCases(6) {
		for _, ranks := range c.rankLists() {
			tickets, want := c.ticketsAt(ranks), c.needed(t, ranks)
			needed, err := impl.NeededTickets(c.lottery, tickets)
			if !slices.Equal(needed, want) || err != impl.ErrNone {
				t.Errorf("NeededTickets(%v, %v) = %v, %d instead of %v", c.lottery, tickets, needed, err, want)
			}
			switch {
			case len(ranks) > 1 && len(want) == 0:
				counts["none is needed"]++
			case len(ranks) > 1 && len(want) == len(ranks):
				counts["all are needed"]++
			case len(want) > 0 && len(want) < len(ranks):
				counts["some are needed"]++
			}
		}
	}
	if len(counts) != 3 {
		t.Errorf("the lists have only these: %v", counts)
	}
}

// Prizes count all tickets of a list.
func TestPrizesOfTickets(t *testing.T) {
	for _, c := range lottoCases(5) {
		for _, ranks := range c.rankLists() {
			tickets := c.ticketsAt(ranks)
			for k, draw := range c.draws {
				if k%37 > 3 {
					continue
				}
				want := make([]int64, c.lottery.Picked+1)
				for _, rank := range ranks {
					want[c.common[rank][k]]++
				}
				prizes, err := impl.PrizesOf(c.lottery, tickets, draw)
				if !slices.Equal(prizes, want) || sumOf(prizes) != int64(len(tickets)) || err != impl.ErrNone {
					t.Errorf("PrizesOf(%v, %v, %d) = %v, %d instead of %v", c.lottery, tickets, draw, prizes, err, want)
				}
			}
		}
	}
}

// A draw is missed just if no ticket has a prize with enough numbers in common.
func TestPrizesOfMissedDraws(t *testing.T) {
	for _, c := range lottoCases(6) {
		for _, ranks := range c.rankLists() {
			tickets := c.ticketsAt(ranks)
			draw, err := impl.FirstMissed(c.lottery, tickets)
			if err == impl.ErrNotFound {
				continue
			}
			prizes, code := impl.PrizesOf(c.lottery, tickets, draw)
			if !isZero(prizes[c.lottery.Hits:]) || sumOf(prizes) != int64(len(tickets)) || code != impl.ErrNone {
				t.Errorf("%v with %v: the draw %d is missed, but has the prizes %v", c.lottery, tickets, draw, prizes)
			}
		}
	}
}

// A list of just MaxTickets tickets is one, and a list of one more is none.
func TestListsOfTheMostTickets(t *testing.T) {
	for _, l := range largeLotteries() {
		c := newLottoCase(l)
		if len(c.tickets) <= impl.MaxTickets {
			checkMissed(t, c, steps(0, len(c.tickets), 1))
			continue
		}
		for first := 0; first+impl.MaxTickets <= len(c.tickets); first += 120 {
			checkMissed(t, c, steps(first, first+impl.MaxTickets, 1))
			if longer := c.tickets[first:]; len(longer) > impl.MaxTickets {
				failTickets(t, l, longer[:impl.MaxTickets+1], impl.ErrRange)
			}
		}
	}
}

func TestListsWrittenOut(t *testing.T) {
	for _, c := range []struct {
		lottery       impl.Lottery
		tickets       []int64
		missed, first int64
		needed        []int64
		draw          int64
		prizes        []int64
	}{
		{impl.Lottery{Numbers: 5, Picked: 2, Drawn: 2, Hits: 1}, nil, 10, 3, nil, 24, []int64{0, 0, 0}},
		{impl.Lottery{Numbers: 5, Picked: 2, Drawn: 2, Hits: 1}, []int64{3}, 3, 12, []int64{3}, 3, []int64{0, 0, 1}},
		{impl.Lottery{Numbers: 5, Picked: 2, Drawn: 2, Hits: 1}, []int64{3, 12}, 0, 0, []int64{3, 12}, 5, []int64{0, 2, 0}},
		{impl.Lottery{Numbers: 5, Picked: 2, Drawn: 2, Hits: 1}, []int64{3, 5, 12}, 0, 0, []int64{3, 12}, 24, []int64{2, 1, 0}},
		{impl.Lottery{Numbers: 5, Picked: 2, Drawn: 2, Hits: 1}, []int64{3, 5, 6, 9, 10, 12, 17, 18, 20, 24}, 0, 0, nil, 9, []int64{3, 6, 1}},
		{impl.Lottery{Numbers: 5, Picked: 2, Drawn: 2, Hits: 2}, []int64{3, 6, 24}, 7, 5, []int64{3, 6, 24}, 24, []int64{2, 0, 1}},
		{impl.Lottery{Numbers: 1, Picked: 1, Drawn: 1, Hits: 1}, []int64{1}, 0, 0, []int64{1}, 1, []int64{0, 1}},
		// The seven lines of the plane of seven points have all pairs of them, each once.
		{impl.Lottery{Numbers: 7, Picked: 3, Drawn: 2, Hits: 2}, []int64{7, 25, 42, 52, 76, 82, 97}, 0, 0, []int64{7, 25, 42, 52, 76, 82, 97}, 65, []int64{2, 4, 1, 0}},
		{impl.Lottery{Numbers: 7, Picked: 3, Drawn: 2, Hits: 2}, []int64{7, 25, 42, 52, 76, 82}, 3, 33, []int64{7, 25, 42, 52, 76, 82}, 33, []int64{2, 4, 0, 0}},
	} {
		count, err := impl.CountMissed(c.lottery, c.tickets)
		if count != c.missed || err != impl.ErrNone {
			t.Errorf("CountMissed(%v, %v) = %d, %d", c.lottery, c.tickets, count, err)
		}
		if yes, err := impl.Guarantees(c.lottery, c.tickets); yes != (c.missed == 0) || err != impl.ErrNone {
			t.Errorf("Guarantees(%v, %v) = %v, %d", c.lottery, c.tickets, yes, err)
		}
		if draw, err := impl.FirstMissed(c.lottery, c.tickets); draw != c.first || (err == impl.ErrNone) != (c.missed > 0) {
			t.Errorf("FirstMissed(%v, %v) = %d, %d", c.lottery, c.tickets, draw, err)
		}
		needed, err := impl.NeededTickets(c.lottery, c.tickets)
		checkCode(t, "NeededTickets", needed, err, c.needed)
		prizes, err := impl.PrizesOf(c.lottery, c.tickets, c.draw)
		checkCode(t, "PrizesOf", prizes, err, c.prizes)
	}
}

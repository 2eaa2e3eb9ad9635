package tests

import (
	"slices"
	"testing"

	"loop.example/g01411/impl"
)

// greedyByHand puts one ticket after the other, up to one more than MaxTickets, and returns their
// ranks in the order in which they are found. It also counts the rounds in which several tickets hit
// the most.
func (c lottoCase) greedyByHand() ([]int, int) {
	greedy, ties := []int{}, 0
	left := steps(0, len(c.draws), 1)
	for len(left) > 0 && len(greedy) <= impl.MaxTickets {
		best, most, several := -1, 0, false
		for rank := range c.tickets {
			count := 0
			for _, k := range left {
				if c.hits(rank, k) {
					count++
				}
			}
			several = several && count <= most || count == most
			if count > most {
				best, most = rank, count
			}
		}
		if several {
			ties++
		}
		greedy = append(greedy, best)
		left = slices.DeleteFunc(left, func(k int) bool { return c.hits(best, k) })
	}
	return greedy, ties
}

// Greedy tickets guarantee, and are found in rounds.
func TestGreedyTickets(t *testing.T) {
	unordered, tied := 0, 0
	for _, c := range lottoCases(7) {
		ranks, ties := c.greedyByHand()
		if !slices.IsSorted(ranks) {
			unordered++
			slices.Sort(ranks)
		}
		tied += ties
		want := c.ticketsAt(ranks)
		tickets, err := impl.GreedyTickets(c.lottery)
		if !slices.Equal(tickets, want) || err != impl.ErrNone {
			t.Errorf("GreedyTickets(%v) = %v, %d instead of %v", c.lottery, tickets, err, want)
		}
	}
	if unordered == 0 || tied == 0 {
		t.Errorf("%d lists are found in another order, and %d rounds are tied", unordered, tied)
	}
}

// For all lotteries, greedy tickets guarantee, each of them hits something, and they are at least as
// many as the bound. Without an error they are at most MaxTickets.
func TestGreedyTicketsGuarantee(t *testing.T) {
	refused := 0
	for _, l := range allLotteries(impl.MaxNumbers) {
		tickets, err := impl.GreedyTickets(l)
		if err == impl.ErrLimit {
			refused++
			fails(t, "GreedyTickets", list(tickets, err), impl.ErrLimit)
			continue
		}
		bound, _ := impl.TicketBound(l)
		if err != impl.ErrNone || int64(len(tickets)) < bound || len(tickets) > impl.MaxTickets {
			t.Errorf("GreedyTickets(%v): %d tickets, %d, and the bound is %d", l, len(tickets), err, bound)
		}
		if yes, err := impl.Guarantees(l, tickets); !yes || err != impl.ErrNone {
			t.Errorf("GreedyTickets(%v) = %v, and they guarantee: %v, %d", l, tickets, yes, err)
		}
		fails(t, "FirstMissed", number(impl.FirstMissed(l, tickets)), impl.ErrNotFound)
	}
	if refused != len(manyGreedy()) {
		t.Errorf("%d lotteries have too many greedy tickets", refused)
	}
}

// manyGreedy are all lotteries that have more than MaxTickets greedy tickets.
func manyGreedy() []impl.Lottery {
	return []impl.Lottery{
		{Numbers: 10, Picked: 4, Drawn: 4, Hits: 4}, {Numbers: 10, Picked: 5, Drawn: 5, Hits: 5},
		{Numbers: 10, Picked: 6, Drawn: 6, Hits: 6}, {Numbers: 11, Picked: 4, Drawn: 4, Hits: 4},
		{Numbers: 11, Picked: 5, Drawn: 5, Hits: 5}, {Numbers: 11, Picked: 6, Drawn: 6, Hits: 6},
		{Numbers: 11, Picked: 7, Drawn: 7, Hits: 7}, {Numbers: 12, Picked: 3, Drawn: 3, Hits: 3},
		{Numbers: 12, Picked: 4, Drawn: 4, Hits: 4}, {Numbers: 12, Picked: 5, Drawn: 5, Hits: 5},
		{Numbers: 12, Picked: 6, Drawn: 6, Hits: 6}, {Numbers: 12, Picked: 7, Drawn: 7, Hits: 7},
		{Numbers: 12, Picked: 8, Drawn: 8, Hits: 8}, {Numbers: 12, Picked: 9, Drawn: 9, Hits: 9},
		{Numbers: 12, Picked: 5, Drawn: 6, Hits: 5}, {Numbers: 12, Picked: 7, Drawn: 6, Hits: 6},
	}
}

// No lottery has just MaxTickets greedy tickets, or one more: 172 is the greatest number below.
func TestGreedyTicketsAtTheLimit(t *testing.T) {
	for _, l := range manyGreedy() {
		if ranks, _ := newLottoCase(l).greedyByHand(); len(ranks) != impl.MaxTickets+1 {
			t.Errorf("the test is wrong: %v has %d greedy tickets", l, len(ranks))
		}
		fails(t, "GreedyTickets", list(impl.GreedyTickets(l)), impl.ErrLimit)
	}
	for _, x := range []struct {
		lottery impl.Lottery
		count   int
	}{
		{impl.Lottery{Numbers: 12, Picked: 6, Drawn: 5, Hits: 5}, 172},
		{impl.Lottery{Numbers: 12, Picked: 6, Drawn: 7, Hits: 6}, 172},
		{impl.Lottery{Numbers: 11, Picked: 3, Drawn: 3, Hits: 3}, 165},
		{impl.Lottery{Numbers: 12, Picked: 4, Drawn: 5, Hits: 4}, 143},
	} {
		c := newLottoCase(x.lottery)
		ranks, _ := c.greedyByHand()
		slices.Sort(ranks)
		tickets, err := impl.GreedyTickets(x.lottery)
		checkCode(t, "GreedyTickets", tickets, err, c.ticketsAt(ranks))
		if len(tickets) != x.count {
			t.Errorf("GreedyTickets(%v): %d tickets", x.lottery, len(tickets))
		}
	}
}

// hitBits has, for each ticket, a bit for each draw, of at most 64, that it hits.
func (c lottoCase) hitBits() []uint64 {
	sets := make([]uint64, len(c.tickets))
	for rank := range c.tickets {
		for k := range c.draws {
			if c.hits(rank, k) {
				sets[rank] |= 1 << k
			}
		}
	}
	return sets
}

// listByHand tries all lists of count more tickets from next on, in order, and returns the ranks of
// the first one that hits, beside what is hit already, all draws.
func (c lottoCase) listByHand(sets []uint64, hit uint64, next int, count int) []int {
	if count == 0 {
		if hit == 1<<len(c.draws)-1 {
			return []int{}
		}
		return nil
	}
	for rank := next; rank < len(sets); rank++ {
		if found := c.listByHand(sets, hit|sets[rank], rank+1, count-1); found != nil {
			return append([]int{rank}, found...)
		}
	}
	return nil
}

// leastByHand tries all lists of 1 to 4 tickets, and returns nil if none of them guarantees.
func (c lottoCase) leastByHand() []int64 {
	sets := c.hitBits()
	for count := 1; count <= 4; count++ {
		if ranks := c.listByHand(sets, 0, 0, count); ranks != nil {
			return c.ticketsAt(ranks)
		}
	}
	return nil
}

// isSmall reports whether a lottery has at most MaxDraws draws and tickets.
func isSmall(l impl.Lottery) bool {
	return choose(l.Numbers, l.Picked) <= impl.MaxDraws && choose(l.Numbers, l.Drawn) <= impl.MaxDraws
}

// Least tickets are the first ones of all lists of their lotteries.
func TestLeastTickets(t *testing.T) {
	counts, others := map[int]int{}, 0
	for _, l := range allLotteries(impl.MaxNumbers) {
		if !isSmall(l) {
			fails(t, "LeastTickets", list(impl.LeastTickets(l)), impl.ErrLimit)
			continue
		}
		want := newLottoCase(l).leastByHand()
		counts[len(want)]++
		tickets, err := impl.LeastTickets(l)
		if want == nil {
			fails(t, "LeastTickets", list(tickets, err), impl.ErrLimit)
			continue
		}
		checkCode(t, "LeastTickets", tickets, err, want)
		if greedy, _ := impl.GreedyTickets(l); !slices.Equal(greedy, tickets) {
			others++
		}
	}
	// The lists of no tickets are the least ones that are not found: those of more than 4.
	for _, count := range []int{0, 1, 2, 3, 4} {
		if counts[count] == 0 || others == 0 {
			t.Errorf("least tickets here: %v, and %d lists are not the greedy ones", counts, others)
		}
	}
}

// Least tickets guarantee, are at least as many as the bound and at most as many as the greedy ones,
// and all of them are needed.
func TestLeastTicketsGuarantee(t *testing.T) {
	more := 0
	for _, l := range allLotteries(impl.MaxNumbers) {
		tickets, err := impl.LeastTickets(l)
		bound, _ := impl.TicketBound(l)
		if err != impl.ErrNone {
			if isSmall(l) && bound <= 4 {
				more++
			}
			continue
		}
		greedy, _ := impl.GreedyTickets(l)
		if int64(len(tickets)) < bound || len(tickets) > len(greedy) {
			t.Errorf("LeastTickets(%v) = %v, the bound is %d, and greedy are %v", l, tickets, bound, greedy)
		}
		if yes, err := impl.Guarantees(l, tickets); !yes || err != impl.ErrNone {
			t.Errorf("LeastTickets(%v) = %v, and they guarantee: %v, %d", l, tickets, yes, err)
		}
		needed, err := impl.NeededTickets(l, tickets)
		checkCode(t, "NeededTickets of the least ones", needed, err, tickets)
	}
	if more == 0 {
		t.Errorf("no least number greater than 4 has a bound of at most 4")
	}
}

// The numbers of draws and of tickets of small lotteries that come nearest are 36 and 45.
func TestLeastTicketsAtTheLimits(t *testing.T) {
	for _, x := range []struct {
		lottery               impl.Lottery
		tickets, draws, bound int64
		least                 []int64
		err                   int64
	}{
		// A draw that lacks two numbers misses two tickets apart, but not three.
		{impl.Lottery{Numbers: 9, Picked: 2, Drawn: 7, Hits: 2}, 36, 36, 2, []int64{3, 12, 48}, impl.ErrNone},
		// The first ticket misses the draw of the two numbers that it lacks alone.
		{impl.Lottery{Numbers: 9, Picked: 7, Drawn: 2, Hits: 1}, 36, 36, 2, []int64{127, 191}, impl.ErrNone},
		{impl.Lottery{Numbers: 9, Picked: 2, Drawn: 9, Hits: 2}, 36, 1, 1, []int64{3}, impl.ErrNone},
		{impl.Lottery{Numbers: 9, Picked: 9, Drawn: 2, Hits: 2}, 1, 36, 1, []int64{511}, impl.ErrNone},
		{impl.Lottery{Numbers: 9, Picked: 2, Drawn: 2, Hits: 1}, 36, 36, 3, []int64{3, 12, 48, 192}, impl.ErrNone},
		{impl.Lottery{Numbers: 9, Picked: 2, Drawn: 2, Hits: 2}, 36, 36, 36, nil, impl.ErrLimit},
		{impl.Lottery{Numbers: 10, Picked: 2, Drawn: 10, Hits: 2}, 45, 1, 1, nil, impl.ErrLimit},
		{impl.Lottery{Numbers: 10, Picked: 10, Drawn: 2, Hits: 2}, 1, 45, 1, nil, impl.ErrLimit},
		{impl.Lottery{Numbers: 10, Picked: 8, Drawn: 8, Hits: 1}, 45, 45, 1, nil, impl.ErrLimit},
		{impl.Lottery{Numbers: 12, Picked: 12, Drawn: 6, Hits: 1}, 1, 924, 1, nil, impl.ErrLimit},
		// All pairs of four numbers, and one pair of the other three: 4, though the bound is 3.
		{impl.Lottery{Numbers: 7, Picked: 3, Drawn: 3, Hits: 2}, 35, 35, 3, []int64{7, 11, 13, 112}, impl.ErrNone},
		// The least number is 5, though the bound is 3 or 4: one number alone may be in no ticket.
		{impl.Lottery{Numbers: 6, Picked: 1, Drawn: 2, Hits: 1}, 6, 15, 3, nil, impl.ErrLimit},
		{impl.Lottery{Numbers: 5, Picked: 1, Drawn: 2, Hits: 1}, 5, 10, 3, []int64{1, 2, 4, 8}, impl.ErrNone},
		{impl.Lottery{Numbers: 7, Picked: 4, Drawn: 2, Hits: 2}, 35, 21, 4, nil, impl.ErrLimit},
		{impl.Lottery{Numbers: 5, Picked: 1, Drawn: 1, Hits: 1}, 5, 5, 5, nil, impl.ErrLimit},
	} {
		tickets, _ := impl.CountTickets(x.lottery)
		draws, _ := impl.CountDraws(x.lottery)
		bound, _ := impl.TicketBound(x.lottery)
		least, err := impl.LeastTickets(x.lottery)
		if tickets != x.tickets || draws != x.draws || bound != x.bound || !slices.Equal(least, x.least) || err != x.err {
			t.Errorf("%v: %d tickets, %d draws, bound %d, least %v, %d", x.lottery, tickets, draws, bound, least, err)
		}
	}
}

func TestGreedyAndLeastWrittenOut(t *testing.T) {
	for _, c := range []struct {
		lottery       impl.Lottery
		greedy, least []int64
	}{
		{impl.Lottery{Numbers: 1, Picked: 1, Drawn: 1, Hits: 1}, []int64{1}, []int64{1}},
		{impl.Lottery{Numbers: 5, Picked: 2, Drawn: 2, Hits: 1}, []int64{3, 12}, []int64{3, 12}},
		{impl.Lottery{Numbers: 4, Picked: 1, Drawn: 1, Hits: 1}, []int64{1, 2, 4, 8}, []int64{1, 2, 4, 8}},
		{impl.Lottery{Numbers: 12, Picked: 12, Drawn: 12, Hits: 12}, []int64{4095}, []int64{4095}},
		{impl.Lottery{Numbers: 12, Picked: 1, Drawn: 12, Hits: 1}, []int64{1}, []int64{1}},
	} {
		greedy, err := impl.GreedyTickets(c.lottery)
		checkCode(t, "GreedyTickets", greedy, err, c.greedy)
		least, err := impl.LeastTickets(c.lottery)
		checkCode(t, "LeastTickets", least, err, c.least)
	}
}

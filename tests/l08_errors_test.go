package tests

import (
	"math"
	"slices"
	"testing"

	"loop.example/g01411/impl"
)

// noLotteries are no lotteries, each because of one field, or of several.
func noLotteries() []impl.Lottery {
	lotteries := []impl.Lottery{{}, {Numbers: 1}, {Numbers: 13, Picked: 13, Drawn: 13, Hits: 13}}
	for _, x := range []int64{0, -1, -5, math.MinInt64, math.MaxInt64, 1 << 32, 64, 63} {
		lotteries = append(lotteries,
			impl.Lottery{Numbers: x, Picked: 2, Drawn: 2, Hits: 1}, impl.Lottery{Numbers: 5, Picked: x, Drawn: 2, Hits: 1},
			impl.Lottery{Numbers: 5, Picked: 2, Drawn: x, Hits: 1}, impl.Lottery{Numbers: 5, Picked: 2, Drawn: 2, Hits: x},
			impl.Lottery{Numbers: x, Picked: x, Drawn: x, Hits: x},
		)
	}
	return append(lotteries,
		impl.Lottery{Numbers: 13, Picked: 2, Drawn: 2, Hits: 1}, impl.Lottery{Numbers: 1, Picked: 2, Drawn: 1, Hits: 1},
		impl.Lottery{Numbers: 5, Picked: 6, Drawn: 2, Hits: 1}, impl.Lottery{Numbers: 5, Picked: 2, Drawn: 6, Hits: 1},
		impl.Lottery{Numbers: 5, Picked: 2, Drawn: 3, Hits: 3}, impl.Lottery{Numbers: 5, Picked: 3, Drawn: 2, Hits: 3},
		impl.Lottery{Numbers: 12, Picked: 12, Drawn: 12, Hits: 13}, impl.Lottery{Numbers: 12, Picked: 13, Drawn: 12, Hits: 1},
	)
}

// failTickets expects an error of all functions that take a list of tickets.
func failTickets(t *testing.T, l impl.Lottery, tickets []int64, want int64) {
	t.Helper()
	fails(t, "Guarantees", yesOrNo(impl.Guarantees(l, tickets)), want)
	fails(t, "FirstMissed", number(impl.FirstMissed(l, tickets)), want)
	fails(t, "CountMissed", number(impl.CountMissed(l, tickets)), want)
	fails(t, "NeededTickets", list(impl.NeededTickets(l, tickets)), want)
	for _, draw := range []int64{power(2, max(l.Drawn, 0)%20) - 1, 0, -1, math.MaxInt64} {
		fails(t, "PrizesOf", list(impl.PrizesOf(l, tickets, draw)), want)
	}
}

// failTicket expects an error of all functions that take a ticket.
func failTicket(t *testing.T, l impl.Lottery, ticket int64, want int64) {
	t.Helper()
	fails(t, "RankOfTicket", number(impl.RankOfTicket(l, ticket)), want)
	for _, draw := range []int64{power(2, max(l.Drawn, 0)%20) - 1, 0, -1, math.MinInt64} {
		fails(t, "CommonNumbers", number(impl.CommonNumbers(l, ticket, draw)), want)
	}
}

func TestLottoOfNoLottery(t *testing.T) {
	// Beside something that is no lottery, no other argument counts, also one that is wrong itself.
	values := []int64{0, 1, 3, 12, -1, 4095, 4096, math.MinInt64, math.MaxInt64}
	for _, l := range noLotteries() {
		if impl.IsLottery(l) {
			t.Errorf("IsLottery(%v) = true", l)
		}
		for _, tickets := range [][]int64{nil, {3}, {3, 12}, {12, 3}, {3, 3}, {0}, {-1}, {math.MaxInt64}, upTo(201)} {
			failTickets(t, l, tickets, impl.ErrInvalid)
			fails(t, "TicketOf", number(impl.TicketOf(l, tickets)), impl.ErrInvalid)
		}
		for _, x := range values {
			failTicket(t, l, x, impl.ErrInvalid)
			fails(t, "NumbersOf", list(impl.NumbersOf(l, x)), impl.ErrInvalid)
			fails(t, "TicketOfRank", number(impl.TicketOfRank(l, x)), impl.ErrInvalid)
		}
		fails(t, "CountTickets", number(impl.CountTickets(l)), impl.ErrInvalid)
		fails(t, "CountDraws", number(impl.CountDraws(l)), impl.ErrInvalid)
		fails(t, "DrawsHit", number(impl.DrawsHit(l)), impl.ErrInvalid)
		fails(t, "TicketBound", number(impl.TicketBound(l)), impl.ErrInvalid)
		fails(t, "GreedyTickets", list(impl.GreedyTickets(l)), impl.ErrInvalid)
		fails(t, "LeastTickets", list(impl.LeastTickets(l)), impl.ErrInvalid)
	}
}

// noSets are numbers that tell no set of k of v numbers: they have too few or too many, one that is
// not there, or are negative.
func noSets(v int64, k int64) []int64 {
	full := power(2, k) - 1
	sets := []int64{
		0, -1, math.MinInt64, math.MaxInt64, -full, -full - 1, full + math.MinInt64, full / 2, 2*full + 1,
		power(2, v), power(2, v) + full/2, power(2, 62) + full/2, power(2, 32) * full, power(2, v) + full, math.MinInt64 + full/2,
	}
	if k > 1 {
		sets = append(sets, power(2, v-1), 1)
	}
	if k < v {
		sets = append(sets, power(2, v)-1)
	}
	return sets
}

func TestLottoOfNoTicket(t *testing.T) {
	for _, l := range append(allLotteries(5), largeLotteries()...) {
		first, last := power(2, l.Picked)-1, power(2, l.Numbers)-power(2, l.Numbers-l.Picked)
		for _, ticket := range noSets(l.Numbers, l.Picked) {
			failTicket(t, l, ticket, impl.ErrRange)
			failTickets(t, l, []int64{ticket}, impl.ErrRange)
			if ticket < first {
				failTickets(t, l, []int64{ticket, first}, impl.ErrRange)
			}
			if ticket > last {
				failTickets(t, l, []int64{last, ticket}, impl.ErrRange)
			}
		}
	}
}

func TestLottoOfNoDraw(t *testing.T) {
	for _, l := range append(allLotteries(5), largeLotteries()...) {
		ticket := power(2, l.Picked) - 1
		for _, draw := range noSets(l.Numbers, l.Drawn) {
			fails(t, "CommonNumbers", number(impl.CommonNumbers(l, ticket, draw)), impl.ErrRange)
			fails(t, "PrizesOf", list(impl.PrizesOf(l, nil, draw)), impl.ErrRange)
			fails(t, "PrizesOf", list(impl.PrizesOf(l, []int64{ticket}, draw)), impl.ErrRange)
		}
	}
}

// noTicketLists are no lists of tickets because of their order, or of what is in them twice.
func noTicketLists(tickets []int64) [][]int64 {
	first, last := tickets[0], tickets[len(tickets)-1]
	turned := slices.Clone(tickets)
	slices.Reverse(turned)
	lists := [][]int64{{first, first}, {last, last}, slices.Repeat([]int64{last}, impl.MaxTickets+1), append(slices.Clone(tickets), first)}
	if len(tickets) > 1 {
		lists = append(lists, turned, []int64{last, first}, []int64{first, last, last}, []int64{first, first, last}, []int64{first, last, first})
	}
	return lists
}

func TestLottoOfNoList(t *testing.T) {
	for _, c := range lottoCases(5) {
		for _, tickets := range noTicketLists(c.tickets) {
			failTickets(t, c.lottery, tickets, impl.ErrRange)
		}
		// A list that guarantees has no missed draw, but ErrRange comes before ErrNotFound.
		failTickets(t, c.lottery, append([]int64{-1}, c.tickets...), impl.ErrRange)
		failTickets(t, c.lottery, append(slices.Clone(c.tickets), math.MaxInt64), impl.ErrRange)
		failTickets(t, c.lottery, append(slices.Clone(c.tickets), c.tickets...), impl.ErrRange)
		if len(c.tickets) > impl.MaxTickets {
			failTickets(t, c.lottery, c.tickets, impl.ErrRange)
		}
	}
}

func TestLottoOfNoNumbers(t *testing.T) {
	l := impl.Lottery{Numbers: 6, Picked: 3, Drawn: 2, Hits: 2}
	for _, numbers := range [][]int64{
		nil, {}, {0}, {0, 1}, {0, 1, 2, 3}, {0, 1, 2, 3, 4, 5}, {0, 0, 1}, {0, 1, 1}, {1, 1, 1}, {1, 0, 2}, {0, 2, 1}, {2, 1, 0},
		{-1, 0, 1}, {0, 1, 6}, {0, 1, 7}, {4, 5, 6}, {-3, -2, -1}, {6, 7, 8}, {0, 1, 64}, {0, 1, 63}, {0, 1, 1 << 32},
		{math.MinInt64, 0, 1}, {0, 1, math.MaxInt64}, {math.MinInt64, 0, math.MaxInt64}, make([]int64, 3), upTo(70), make([]int64, 1000),
	} {
		fails(t, "TicketOf", number(impl.TicketOf(l, numbers)), impl.ErrRange)
	}
	for _, l := range pickings() {
		numbers := upTo(l.Picked)
		for _, other := range [][]int64{
			numbers[1:], append(slices.Clone(numbers), l.Picked), append(slices.Clone(numbers[1:]), l.Numbers), append([]int64{-1}, numbers[1:]...),
			append(slices.Clone(numbers), l.Picked-1), append([]int64{0}, numbers...),
		} {
			fails(t, "TicketOf", number(impl.TicketOf(l, other)), impl.ErrRange)
		}
	}
}

func TestNumbersOfNoSet(t *testing.T) {
	for _, l := range pickings() {
		for _, set := range []int64{-1, power(2, l.Numbers), power(2, l.Numbers) + 1, -power(2, l.Numbers), 1 << 32, 1 << 62, math.MinInt64, math.MaxInt64, math.MinInt64 + 1} {
			fails(t, "NumbersOf", list(impl.NumbersOf(l, set)), impl.ErrRange)
		}
	}
}

func TestTicketsOfNoRank(t *testing.T) {
	for _, l := range allLotteries(impl.MaxNumbers) {
		for _, rank := range []int64{-1, -2, -choose(l.Numbers, l.Picked), math.MinInt64} {
			fails(t, "TicketOfRank", number(impl.TicketOfRank(l, rank)), impl.ErrRange)
		}
		fails(t, "TicketOfRank", number(impl.TicketOfRank(l, choose(l.Numbers, l.Picked))), impl.ErrNotFound)
	}
}

func TestLottoLeavesArgumentsAsTheyAre(t *testing.T) {
	l := impl.Lottery{Numbers: 5, Picked: 2, Drawn: 3, Hits: 1}
	first, second, third := []int64{3, 5, 12, 17, 24}, []int64{3, 12}, []int64{1, 4}
	tickets, others, numbers := withSpare(first), withSpare(second), withSpare(third)
	for _, list := range [][]int64{tickets, others, tickets[2:]} {
		impl.Guarantees(l, list)
		impl.FirstMissed(l, list)
		impl.CountMissed(l, list)
		impl.NeededTickets(l, list)
		impl.PrizesOf(l, list, 7)
	}
	impl.TicketOf(l, numbers)
	if !isUntouched(tickets, first) || !isUntouched(others, second) || !isUntouched(numbers, third) {
		t.Errorf("arguments are changed: %v, %v, %v", tickets, others, numbers)
	}
}

func TestLottoResultsAreNewMemory(t *testing.T) {
	l, tickets := impl.Lottery{Numbers: 5, Picked: 2, Drawn: 2, Hits: 1}, []int64{3, 12}
	calls := map[string]func() []int64{
		"NumbersOf":            func() []int64 { x, _ := impl.NumbersOf(l, 10); return x },
		"NeededTickets":        func() []int64 { x, _ := impl.NeededTickets(l, tickets); return x },
		"NeededTickets of one": func() []int64 { x, _ := impl.NeededTickets(l, tickets[:1]); return x },
		"PrizesOf":             func() []int64 { x, _ := impl.PrizesOf(l, tickets, 3); return x },
		"GreedyTickets":        func() []int64 { x, _ := impl.GreedyTickets(l); return x },
		"LeastTickets":         func() []int64 { x, _ := impl.LeastTickets(l); return x },
	}
	for name, call := range calls {
		checkNewMemory(t, name, func() []int64 {
			x := call()
			fill(x[len(x):])
			return x
		})
		if !slices.Equal(tickets, []int64{3, 12}) {
			t.Errorf("%s gives out its arguments", name)
		}
	}
}

package tests

import (
	"math"
	"slices"
	"testing"

	"loop.example/g01411/impl"
)

// allLotteries are all lotteries of at most so many numbers.
func allLotteries(most int64) []impl.Lottery {
	lotteries := []impl.Lottery{}
	for v := int64(1); v <= most; v++ {
		for picked := int64(1); picked <= v; picked++ {
			for drawn := int64(1); drawn <= v; drawn++ {
				for hits := int64(1); hits <= picked && hits <= drawn; hits++ {
					lotteries = append(lotteries, impl.Lottery{Numbers: v, Picked: picked, Drawn: drawn, Hits: hits})
				}
			}
		}
	}
	return lotteries
}

// largeLotteries have the most numbers, and many or few tickets and draws.
func largeLotteries() []impl.Lottery {
	return []impl.Lottery{
		{Numbers: 12, Picked: 6, Drawn: 6, Hits: 4},
		{Numbers: 12, Picked: 6, Drawn: 6, Hits: 3},
		{Numbers: 12, Picked: 12, Drawn: 6, Hits: 6},
		{Numbers: 12, Picked: 1, Drawn: 12, Hits: 1},
		{Numbers: 12, Picked: 1, Drawn: 5, Hits: 1},
		{Numbers: 12, Picked: 7, Drawn: 1, Hits: 1},
		{Numbers: 12, Picked: 11, Drawn: 11, Hits: 11},
		{Numbers: 12, Picked: 4, Drawn: 8, Hits: 3},
		{Numbers: 11, Picked: 5, Drawn: 6, Hits: 4},
		{Numbers: 11, Picked: 3, Drawn: 2, Hits: 2},
		{Numbers: 10, Picked: 4, Drawn: 5, Hits: 4},
		{Numbers: 9, Picked: 6, Drawn: 3, Hits: 2},
	}
}

// sumOfPowers is the number that tells a set of numbers.
func sumOfPowers(numbers []int64) int64 {
	sum := int64(0)
	for _, x := range numbers {
		sum += power(2, x)
	}
	return sum
}

// numberLists chooses k of v numbers in all ways, and orders these by their sums.
func numberLists(v int64, k int64) [][]int64 {
	lists := [][]int64{{}}
	for range k {
		longer := [][]int64{}
		for _, list := range lists {
			for x := range v {
				if len(list) == 0 || x > list[len(list)-1] {
					longer = append(longer, append(slices.Clone(list), x))
				}
			}
		}
		lists = longer
	}
	slices.SortFunc(lists, func(x []int64, y []int64) int { return int(sumOfPowers(x) - sumOfPowers(y)) })
	return lists
}

// lottoCase is a lottery with all its tickets and draws, and how many numbers each ticket has in
// common with each draw.
type lottoCase struct {
	lottery        impl.Lottery
	tickets, draws []int64
	common         [][]int64
}

func newLottoCase(l impl.Lottery) lottoCase {
	c := lottoCase{lottery: l}
	draws := numberLists(l.Numbers, l.Drawn)
	for _, draw := range draws {
		c.draws = append(c.draws, sumOfPowers(draw))
	}
	for _, ticket := range numberLists(l.Numbers, l.Picked) {
		c.tickets = append(c.tickets, sumOfPowers(ticket))
		counts := make([]int64, len(draws))
		for k, draw := range draws {
			for _, x := range ticket {
				if slices.Contains(draw, x) {
					counts[k]++
				}
			}
		}
		c.common = append(c.common, counts)
	}
	return c
}

// hits reports whether the ticket with a rank hits the draw with another.
func (c lottoCase) hits(ticket int, draw int) bool {
	return c.common[ticket][draw] >= c.lottery.Hits
}

// lottoCases are all lotteries of few numbers, and some of the greatest ones.
func lottoCases(most int64) []lottoCase {
	cases := []lottoCase{}
	for _, l := range append(allLotteries(most), largeLotteries()...) {
		cases = append(cases, newLottoCase(l))
	}
	return cases
}

func TestIsLottery(t *testing.T) {
	known := map[impl.Lottery]bool{}
	for _, l := range allLotteries(impl.MaxNumbers) {
		known[l] = true
	}
	values := append(upTo(impl.MaxNumbers+3), -1, -2, 64, 1<<32+2, math.MinInt64, math.MaxInt64)
	found := 0
	for _, v := range values {
		for _, picked := range values {
			for _, drawn := range values {
				for _, hits := range values {
					l := impl.Lottery{Numbers: v, Picked: picked, Drawn: drawn, Hits: hits}
					if yes := impl.IsLottery(l); yes != known[l] {
						t.Errorf("IsLottery(%v) = %v", l, yes)
					} else if yes {
						found++
					}
				}
			}
		}
	}
	if found != len(known) || found != 2366 {
		t.Errorf("%d of %d lotteries are found", found, len(known))
	}
}

func TestCountTicketsAndDraws(t *testing.T) {
	for _, l := range allLotteries(impl.MaxNumbers) {
		tickets, err := impl.CountTickets(l)
		if tickets != choose(l.Numbers, l.Picked) || err != impl.ErrNone {
			t.Errorf("CountTickets(%v) = %d, %d", l, tickets, err)
		}
		draws, err := impl.CountDraws(l)
		if draws != choose(l.Numbers, l.Drawn) || err != impl.ErrNone {
			t.Errorf("CountDraws(%v) = %d, %d", l, draws, err)
		}
	}
}

// Not only the formula tells the numbers of tickets and of draws, but also all sets.
func TestCountedTicketsAndDraws(t *testing.T) {
	for _, c := range lottoCases(7) {
		tickets, _ := impl.CountTickets(c.lottery)
		draws, _ := impl.CountDraws(c.lottery)
		if tickets != int64(len(c.tickets)) || draws != int64(len(c.draws)) {
			t.Errorf("%v has %d tickets and %d draws", c.lottery, tickets, draws)
		}
	}
}

// pickings are lotteries with all numbers of numbers and of picked ones.
func pickings() []impl.Lottery {
	lotteries := []impl.Lottery{}
	for _, l := range allLotteries(impl.MaxNumbers) {
		if l.Drawn == l.Numbers+1-l.Picked && l.Hits == 1 {
			lotteries = append(lotteries, l)
		}
	}
	return lotteries
}

// Tickets come back from their numbers.
func TestTicketsOfNumbers(t *testing.T) {
	for _, l := range pickings() {
		for _, numbers := range numberLists(l.Numbers, l.Picked) {
			ticket, err := impl.TicketOf(l, numbers)
			if ticket != sumOfPowers(numbers) || err != impl.ErrNone {
				t.Errorf("TicketOf(%v, %v) = %d, %d", l, numbers, ticket, err)
			}
			if back, err := impl.NumbersOf(l, ticket); !slices.Equal(back, numbers) || err != impl.ErrNone {
				t.Errorf("NumbersOf(%v, %d) = %v, %d", l, ticket, back, err)
			}
		}
	}
}

// Sets of all sizes have numbers, draws and others among them.
func TestNumbersOfAllSets(t *testing.T) {
	for _, l := range pickings() {
		if l.Picked > 1 && l.Picked < l.Numbers {
			continue
		}
		for set := range power(2, l.Numbers) {
			want := []int64{}
			for x := range l.Numbers {
				if set/power(2, x)%2 == 1 {
					want = append(want, x)
				}
			}
			numbers, err := impl.NumbersOf(l, set)
			if !slices.Equal(numbers, want) || err != impl.ErrNone {
				t.Errorf("NumbersOf(%v, %d) = %v, %d", l, set, numbers, err)
			}
		}
	}
}

// Tickets come back from their ranks, the numbers of tickets that come before.
func TestRanks(t *testing.T) {
	for _, l := range pickings() {
		tickets := []int64{}
		for _, numbers := range numberLists(l.Numbers, l.Picked) {
			tickets = append(tickets, sumOfPowers(numbers))
		}
		for k, want := range tickets {
			rank, err := impl.RankOfTicket(l, want)
			if rank != int64(k) || err != impl.ErrNone {
				t.Errorf("RankOfTicket(%v, %d) = %d, %d", l, want, rank, err)
			}
			if ticket, err := impl.TicketOfRank(l, rank); ticket != want || err != impl.ErrNone {
				t.Errorf("TicketOfRank(%v, %d) = %d, %d", l, rank, ticket, err)
			}
		}
		checkEndsOfRanks(t, l, int64(len(tickets)))
	}
}

// checkEndsOfRanks asks for the first and the last rank, and for those behind it.
func checkEndsOfRanks(t *testing.T, l impl.Lottery, count int64) {
	t.Helper()
	first, err := impl.TicketOfRank(l, 0)
	if first != power(2, l.Picked)-1 || err != impl.ErrNone {
		t.Errorf("TicketOfRank(%v, 0) = %d, %d", l, first, err)
	}
	last, err := impl.TicketOfRank(l, count-1)
	if last != power(2, l.Numbers)-power(2, l.Numbers-l.Picked) || err != impl.ErrNone {
		t.Errorf("TicketOfRank(%v, %d) = %d, %d", l, count-1, last, err)
	}
	for _, rank := range []int64{count, count + 1, impl.MaxWords, 1 << 32, math.MaxInt64} {
		fails(t, "TicketOfRank", number(impl.TicketOfRank(l, rank)), impl.ErrNotFound)
	}
}

// Ranks depend on Numbers and Picked alone.
func TestRanksOfAllLotteries(t *testing.T) {
	for _, l := range allLotteries(impl.MaxNumbers) {
		count := choose(l.Numbers, l.Picked)
		for _, rank := range []int64{0, count / 3, count - 1} {
			ticket, err := impl.TicketOfRank(l, rank)
			if back, code := impl.RankOfTicket(l, ticket); back != rank || err != impl.ErrNone || code != impl.ErrNone {
				t.Errorf("the rank %d of %v: %d, %d, %d, %d", rank, l, ticket, err, back, code)
			}
		}
	}
}

func TestCommonNumbers(t *testing.T) {
	for _, c := range lottoCases(5) {
		for _, i := range sampled(len(c.tickets)) {
			for _, k := range sampled(len(c.draws)) {
				common, err := impl.CommonNumbers(c.lottery, c.tickets[i], c.draws[k])
				if common != c.common[i][k] || err != impl.ErrNone {
					t.Errorf("CommonNumbers(%v, %d, %d) = %d, %d instead of %d", c.lottery, c.tickets[i], c.draws[k], common, err, c.common[i][k])
				}
			}
		}
	}
}

// The number of draws that a ticket hits is the same for all.
func TestDrawsHit(t *testing.T) {
	for _, c := range lottoCases(7) {
		hit, err := impl.DrawsHit(c.lottery)
		for i := range c.tickets {
			count := int64(0)
			for k := range c.draws {
				if c.hits(i, k) {
					count++
				}
			}
			if hit != count || err != impl.ErrNone {
				t.Errorf("DrawsHit(%v) = %d, %d, but the ticket %d hits %d", c.lottery, hit, err, c.tickets[i], count)
			}
		}
	}
}

// For all lotteries, draws that are hit are counted by the numbers in common, and the ticket bound by
// both of these.
func TestDrawsHitAndTicketBounds(t *testing.T) {
	for _, l := range allLotteries(impl.MaxNumbers) {
		want := int64(0)
		for k := l.Hits; k <= l.Picked; k++ {
			want += choose(l.Picked, k) * choose(l.Numbers-l.Picked, l.Drawn-k)
		}
		if hit, err := impl.DrawsHit(l); hit != want || err != impl.ErrNone {
			t.Errorf("DrawsHit(%v) = %d, %d instead of %d", l, hit, err, want)
		}
		bound, err := impl.TicketBound(l)
		if draws := choose(l.Numbers, l.Drawn); bound*want < draws || (bound-1)*want >= draws || err != impl.ErrNone {
			t.Errorf("TicketBound(%v) = %d, %d, of %d draws a ticket hits %d", l, bound, err, draws, want)
		}
	}
}

func TestTicketsWrittenOut(t *testing.T) {
	for _, c := range []struct {
		lottery                    impl.Lottery
		tickets, draws, hit, bound int64
		numbers                    []int64
		ticket, rank               int64
	}{
		{impl.Lottery{Numbers: 1, Picked: 1, Drawn: 1, Hits: 1}, 1, 1, 1, 1, []int64{0}, 1, 0},
		{impl.Lottery{Numbers: 5, Picked: 2, Drawn: 2, Hits: 1}, 10, 10, 7, 2, []int64{1, 3}, 10, 4},
		{impl.Lottery{Numbers: 5, Picked: 2, Drawn: 2, Hits: 2}, 10, 10, 1, 10, []int64{3, 4}, 24, 9},
		{impl.Lottery{Numbers: 6, Picked: 3, Drawn: 3, Hits: 2}, 20, 20, 10, 2, []int64{0, 2, 4}, 21, 5},
		{impl.Lottery{Numbers: 7, Picked: 3, Drawn: 2, Hits: 2}, 35, 21, 3, 7, []int64{4, 5, 6}, 112, 34},
		{impl.Lottery{Numbers: 12, Picked: 6, Drawn: 6, Hits: 3}, 924, 924, 662, 2, []int64{0, 1, 2, 3, 4, 11}, 2079, 462},
		{impl.Lottery{Numbers: 12, Picked: 12, Drawn: 1, Hits: 1}, 1, 12, 12, 1, upTo(12), 4095, 0},
		{impl.Lottery{Numbers: 12, Picked: 1, Drawn: 12, Hits: 1}, 12, 1, 1, 1, []int64{11}, 2048, 11},
	} {
		tickets, _ := impl.CountTickets(c.lottery)
		draws, _ := impl.CountDraws(c.lottery)
		hit, _ := impl.DrawsHit(c.lottery)
		bound, _ := impl.TicketBound(c.lottery)
		if tickets != c.tickets || draws != c.draws || hit != c.hit || bound != c.bound {
			t.Errorf("%v: %d tickets, %d draws, %d hit, bound %d", c.lottery, tickets, draws, hit, bound)
		}
		ticket, _ := impl.TicketOf(c.lottery, c.numbers)
		rank, _ := impl.RankOfTicket(c.lottery, c.ticket)
		back, _ := impl.TicketOfRank(c.lottery, c.rank)
		numbers, _ := impl.NumbersOf(c.lottery, c.ticket)
		if ticket != c.ticket || rank != c.rank || back != c.ticket || !slices.Equal(numbers, c.numbers) {
			t.Errorf("%v: ticket %d, rank %d, back %d, numbers %v", c.lottery, ticket, rank, back, numbers)
		}
	}
}

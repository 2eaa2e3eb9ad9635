package tests

import (
	"slices"
	"testing"

	"loop.example/g01411/impl"
)

// systemByHand puts in one bet after the other, in the order in which they are found. It also counts
// the rounds in which several bets have the most.
func (c slipCase) systemByHand(r int64) ([]int64, int) {
	system, ties := []int64{}, 0
	left := slices.Clone(c.bets)
	for len(left) > 0 {
		best, most, several := int64(-1), 0, false
		for _, w := range c.bets {
			count := 0
			for _, u := range left {
				if apart(c.digits[w], c.digits[u]) <= r {
					count++
				}
			}
			several = several && count <= most || count == most
			if count > most {
				best, most = w, count
			}
		}
		if several {
			ties++
		}
		system = append(system, best)
		left = slices.DeleteFunc(left, func(u int64) bool { return apart(c.digits[best], c.digits[u]) <= r })
	}
	return system, ties
}

// someRadii are all for small slips, and some for the greatest ones.
func (c slipCase) someRadii() []int64 {
	if len(c.bets) <= 24 {
		return upTo(impl.MaxPlaces + 1)
	}
	return []int64{0, 1, 2, 3, impl.MaxPlaces}
}

// checkGuaranteed expects that a reduced system has bets of the slip alone and guarantees all hits
// but r.
func checkGuaranteed(t *testing.T, c slipCase, r int64, system []int64) {
	t.Helper()
	if !hasAll(c.bets, system) {
		t.Errorf("ReducedSystem(%v, %v, %d) = %v has other bets than the slip", c.space, c.slip, r, system)
	}
	hits, err := impl.GuaranteeOf(c.space, c.slip, system)
	if hits < int64(len(c.space.Sizes))-r || err != impl.ErrNone {
		t.Errorf("ReducedSystem(%v, %v, %d) = %v guarantees %d hits, %d", c.space, c.slip, r, system, hits, err)
	}
	for _, result := range []int64{c.bets[0], c.bets[len(c.bets)/2], c.bets[len(c.bets)-1]} {
		if best, _ := impl.BestHits(c.space, system, result); best < int64(len(c.space.Sizes))-r {
			t.Errorf("ReducedSystem(%v, %v, %d) = %v has %d hits with %d", c.space, c.slip, r, system, best, result)
		}
	}
}

// Reduced systems guarantee all but r hits.
func TestReducedSystems(t *testing.T) {
	unordered, tied := 0, 0
	for _, c := range slipCases(t) {
		if len(c.bets) > impl.MaxBets {
			continue
		}
		for _, r := range c.someRadii() {
			want, ties := c.systemByHand(r)
			if !slices.IsSorted(want) {
				unordered++
				slices.Sort(want)
			}
			tied += ties
			system, err := impl.ReducedSystem(c.space, c.slip, r)
			if !slices.Equal(system, want) || err != impl.ErrNone {
				t.Errorf("ReducedSystem(%v, %v, %d) = %v, %d instead of %v", c.space, c.slip, r, system, err, want)
			}
			checkGuaranteed(t, c, r, system)
		}
	}
	if unordered == 0 || tied == 0 {
		t.Errorf("%d systems find their words in another order, and %d rounds are tied", unordered, tied)
	}
}

// For r = 0 the system has all bets of the slip, and for as many misses as there are matches the
// least one alone.
func TestReducedSystemsForNoMissAndForAll(t *testing.T) {
	for _, c := range slipCases(t) {
		if len(c.bets) > impl.MaxBets {
			continue
		}
		system, err := impl.ReducedSystem(c.space, c.slip, 0)
		checkCode(t, "ReducedSystem for 0", system, err, c.bets)
		for r := int64(len(c.space.Sizes)); r <= impl.MaxPlaces; r++ {
			system, err := impl.ReducedSystem(c.space, c.slip, r)
			checkCode(t, "ReducedSystem for all places", system, err, c.bets[:1])
		}
	}
}

// The reduced system of the full slip is the greedy code of chapter 2.
func TestReducedSystemsOfFullSlips(t *testing.T) {
	for _, s := range append(smallSpaces(t), space(t, 2, 2, 2, 2, 2, 2, 2, 2), space(t, 4, 4, 4, 4), space(t, 2, 3, 4, 4, 3), space(t, 3, 3, 2, 4, 4)) {
		full, _ := impl.FullSlip(s)
		for r := range int64(impl.MaxPlaces + 1) {
			want, _ := impl.GreedyCode(s, r)
			system, err := impl.ReducedSystem(s, full, r)
			checkCode(t, "ReducedSystem", system, err, want)
		}
	}
}

// Matches with one sign add nothing: without them, the system has the same bets.
func TestReducedSystemsWithMatchesOfOneSign(t *testing.T) {
	few, many := space(t, 3, 2, 3), space(t, 2, 3, 4, 2, 3, 2)
	for _, slip := range allSlips(few) {
		longer := impl.Slip{2, slip[0], 8, slip[1], slip[2], 1}
		for r := range int64(4) {
			want := []int64{}
			system, _ := impl.ReducedSystem(few, slip, r)
			for _, digits := range digitsOfCode(few, system) {
				w, err := impl.WordOf(many, []int64{1, digits[0], 3, digits[1], digits[2], 0})
				if err != impl.ErrNone {
					t.Errorf("WordOf: %d", err)
				}
				want = append(want, w)
			}
			system, err := impl.ReducedSystem(many, longer, r)
			checkCode(t, "ReducedSystem", system, err, want)
		}
	}
}

// limitSlip is a slip of so many bets, with an error that its reduced systems give.
type limitSlip struct {
	sizes []int64
	slip  impl.Slip
	bets  int64
	err   int64
}

// limitSlips are slips of nearly MaxBets bets, and of more. No slip has just MaxBets bets, as the
// numbers of signs have no product of 300: 288 is the greatest one below, 324 the least one beyond.
func limitSlips() []limitSlip {
	return []limitSlip{
		{[]int64{2, 2, 2, 2, 2, 2, 2, 2}, impl.Slip{3, 3, 3, 3, 3, 3, 3, 3}, 256, impl.ErrNone},
		{[]int64{4, 4, 4, 4, 4}, impl.Slip{15, 15, 15, 15, 8}, 256, impl.ErrNone},
		{[]int64{4, 4, 2, 3, 3}, impl.Slip{15, 15, 3, 7, 7}, 288, impl.ErrNone},
		{[]int64{4, 4, 4, 4, 4}, impl.Slip{7, 15, 14, 10, 15}, 288, impl.ErrNone},
		{[]int64{3, 2, 3, 2, 3, 2, 2, 2}, impl.Slip{7, 3, 7, 3, 6, 3, 3, 3}, 576, impl.ErrLimit},
		{[]int64{3, 2, 3, 2, 3, 2, 2, 2}, impl.Slip{7, 3, 7, 3, 6, 3, 3, 1}, 288, impl.ErrNone},
		{[]int64{4, 3, 3, 3, 3}, impl.Slip{15, 7, 7, 7, 7}, 324, impl.ErrLimit},
		{[]int64{4, 4, 4, 4, 4}, impl.Slip{7, 11, 15, 13, 14}, 324, impl.ErrLimit},
		{[]int64{4, 4, 4, 4, 4}, impl.Slip{15, 15, 15, 15, 9}, 512, impl.ErrLimit},
		{[]int64{4, 4, 4, 4, 4}, impl.Slip{15, 15, 15, 15, 15}, 1024, impl.ErrLimit},
		{[]int64{4, 2, 2, 2, 2, 2, 2, 4}, impl.Slip{15, 3, 3, 3, 3, 3, 3, 15}, 1024, impl.ErrLimit},
	}
}

func TestReducedSystemsOfTheMostBets(t *testing.T) {
	for _, x := range limitSlips() {
		s := space(t, x.sizes...)
		c := newSlipCase(s, digitLists(s.Sizes), x.slip)
		if count, err := impl.CountBets(s, x.slip); count != x.bets || int64(len(c.bets)) != x.bets || err != impl.ErrNone {
			t.Errorf("CountBets(%v, %v) = %d, %d", s, x.slip, count, err)
		}
		for _, r := range []int64{0, 1, 2, impl.MaxPlaces} {
			system, err := impl.ReducedSystem(s, x.slip, r)
			if x.err != impl.ErrNone {
				fails(t, "ReducedSystem", list(system, err), x.err)
				continue
			}
			want, _ := c.systemByHand(r)
			slices.Sort(want)
			checkCode(t, "ReducedSystem", system, err, want)
			checkGuaranteed(t, c, r, system)
		}
	}
}

func TestReducedSystemsWrittenOut(t *testing.T) {
	for _, c := range []struct {
		sizes []int64
		slip  impl.Slip
		r     int64
		want  []int64
	}{
		{[]int64{2}, impl.Slip{3}, 0, []int64{0, 1}},
		{[]int64{2}, impl.Slip{3}, 1, []int64{0}},
		{[]int64{4}, impl.Slip{12}, 0, []int64{2, 3}},
		{[]int64{4}, impl.Slip{12}, 8, []int64{2}},
		{[]int64{2, 2, 2}, impl.Slip{3, 3, 3}, 1, []int64{0, 7}},
		{[]int64{3, 3}, impl.Slip{7, 7}, 1, []int64{0, 2, 4}},
		{[]int64{3, 3, 2}, impl.Slip{3, 4, 3}, 1, []int64{4, 5}},
		{[]int64{3, 3, 3}, impl.Slip{6, 5, 6}, 1, []int64{10, 26}},
		{[]int64{3, 3, 3, 3}, impl.Slip{7, 7, 7, 7}, 1, []int64{0, 13, 26, 32, 42, 46, 61, 65, 75}},
		{[]int64{2, 2, 2, 2, 2, 2, 2, 2}, impl.Slip{3, 1, 2, 3, 1, 1, 2, 3}, 1, []int64{34, 179}},
	} {
		system, err := impl.ReducedSystem(space(t, c.sizes...), c.slip, c.r)
		checkCode(t, "ReducedSystem", system, err, c.want)
	}
}

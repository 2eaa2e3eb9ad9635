package tests

import (
	"slices"
	"testing"

	"loop.example/g01411/impl"
)

// sampled returns every word of a small space, and some of a great one, the last one among them.
func sampled(words int) []int64 {
	list := []int64{}
	for w := 0; w < words; w += 1 + words/40 {
		list = append(list, int64(w))
	}
	return append(list, int64(words-1))
}

// Hits and misses are together all matches, and misses are the distance.
func TestHits(t *testing.T) {
	for _, s := range append(smallSpaces(t), largeSpaces(t)...) {
		digits := digitLists(s.Sizes)
		for _, w := range sampled(len(digits)) {
			for _, result := range sampled(len(digits)) {
				same := int64(0)
				for i, d := range digits[w] {
					if digits[result][i] == d {
						same++
					}
				}
				hits, err := impl.HitsOf(s, w, result)
				far, _ := impl.DistanceOf(s, w, result)
				if hits != same || hits+far != int64(len(s.Sizes)) || err != impl.ErrNone {
					t.Errorf("HitsOf(%v, %d, %d) = %d, %d instead of %d, and the distance is %d", s, w, result, hits, err, same, far)
				}
			}
		}
	}
}

// prizesByHand counts the words of the code at each distance from a result.
func (c coverCase) prizesByHand(result int64) []int64 {
	prizes := make([]int64, len(c.space.Sizes)+1)
	for _, w := range c.code {
		prizes[c.table[w][result]]++
	}
	return prizes
}

// Prize lists count all bets of a code, and their first number that is not 0 tells the best hits.
func TestPrizeListsAndBestHits(t *testing.T) {
	for _, c := range coverCases(t) {
		for _, result := range sampled(len(c.table)) {
			want := c.prizesByHand(result)
			prizes, err := impl.PrizeList(c.space, c.code, result)
			if !slices.Equal(prizes, want) || sumOf(prizes) != int64(len(c.code)) || err != impl.ErrNone {
				t.Errorf("PrizeList(%v, %v, %d) = %v, %d instead of %v", c.space, c.code, result, prizes, err, want)
			}
			if len(c.code) == 0 {
				continue
			}
			misses := slices.IndexFunc(want, func(count int64) bool { return count != 0 })
			hits, err := impl.BestHits(c.space, c.code, result)
			if hits != int64(len(c.space.Sizes)-misses) || err != impl.ErrNone {
				t.Errorf("BestHits(%v, %v, %d) = %d, %d, and the prizes are %v", c.space, c.code, result, hits, err, want)
			}
		}
	}
}

// poolCase is a code and a slip of the same space.
type poolCase struct {
	coverCase
	slip impl.Slip
	bets []int64
}

// poolCases are codes and slips: all of the spaces of up to 8 words, some of greater ones.
func poolCases(t *testing.T) []poolCase {
	cases := []poolCase{}
	for _, s := range append(smallSpaces(t), largeSpaces(t)...) {
		table, digits := distanceTable(s), digitLists(s.Sizes)
		slips, codes := someSlips(s), append(someCodes(s), pairs(int64(len(table)))...)
		if len(table) <= 8 {
			slips, codes = allSlips(s), allCodes(int64(len(table)))
		}
		for _, slip := range slips {
			x := newSlipCase(s, digits, slip)
			for _, code := range append(codes, x.bets) {
				if len(code) > 0 {
					cases = append(cases, poolCase{coverCase{s, table, code}, slip, x.bets})
				}
			}
		}
	}
	return cases
}

// pairs are some codes of one and two words of a space of n words.
func pairs(n int64) [][]int64 {
	return [][]int64{{1}, {n / 2}, {n/2 - 1, n - 1}, {1, n - 2}, {n / 3, n/3 + 1}}
}

// hitsByHand is the greatest number of hits of a bet of the code.
func (c coverCase) hitsByHand(result int64) int64 {
	return int64(len(c.space.Sizes)) - c.distance(result)
}

// worst finds, among all results of the slip, the first one with the fewest hits, and these.
func (c poolCase) worst() (int64, int64) {
	worst, fewest := int64(-1), int64(99)
	for _, result := range c.bets {
		if hits := c.hitsByHand(result); hits < fewest {
			worst, fewest = result, hits
		}
	}
	return worst, fewest
}

// Worst results have the hits that are guaranteed, and no result of the slip has fewer.
func TestGuaranteesAndWorstResults(t *testing.T) {
	ties := 0
	for _, c := range poolCases(t) {
		want, fewest := c.worst()
		hits, err := impl.GuaranteeOf(c.space, c.slip, c.code)
		if hits != fewest || err != impl.ErrNone {
			t.Errorf("GuaranteeOf(%v, %v, %v) = %d, %d instead of %d", c.space, c.slip, c.code, hits, err, fewest)
		}
		worst, err := impl.WorstResult(c.space, c.slip, c.code)
		if worst != want || err != impl.ErrNone {
			t.Errorf("WorstResult(%v, %v, %v) = %d, %d instead of %d", c.space, c.slip, c.code, worst, err, want)
		}
		if best, err := impl.BestHits(c.space, c.code, worst); best != hits || err != impl.ErrNone {
			t.Errorf("BestHits(%v, %v, %d) = %d, %d instead of %d", c.space, c.code, worst, best, err, hits)
		}
		isLater := func(w int64) bool { return w > want && c.hitsByHand(w) == fewest }
		if want > c.bets[0] && slices.ContainsFunc(c.bets, isLater) {
			ties++
		}
	}
	if ties == 0 {
		t.Errorf("no worst result is one of several and not the first one of the slip")
	}
}

// The bets of a slip guarantee all matches.
func TestGuaranteesOfAllBets(t *testing.T) {
	for _, c := range slipCases(t) {
		n := int64(len(c.space.Sizes))
		if hits, err := impl.GuaranteeOf(c.space, c.slip, c.bets); hits != n || err != impl.ErrNone {
			t.Errorf("GuaranteeOf(%v, %v, %v) = %d, %d", c.space, c.slip, c.bets, hits, err)
		}
		if worst, err := impl.WorstResult(c.space, c.slip, c.bets); worst != c.bets[0] || err != impl.ErrNone {
			t.Errorf("WorstResult(%v, %v, %v) = %d, %d", c.space, c.slip, c.bets, worst, err)
		}
	}
}

// A code guarantees a slip of one bet the best hits with it.
func TestGuaranteesForOneBet(t *testing.T) {
	for _, c := range poolCases(t) {
		if len(c.bets) > 1 {
			continue
		}
		hits, err := impl.GuaranteeOf(c.space, c.slip, c.code)
		if best, _ := impl.BestHits(c.space, c.code, c.bets[0]); hits != best || err != impl.ErrNone {
			t.Errorf("GuaranteeOf(%v, %v, %v) = %d, %d instead of %d", c.space, c.slip, c.code, hits, err, best)
		}
		if worst, err := impl.WorstResult(c.space, c.slip, c.code); worst != c.bets[0] || err != impl.ErrNone {
			t.Errorf("WorstResult(%v, %v, %v) = %d, %d", c.space, c.slip, c.code, worst, err)
		}
	}
}

// Full slips are guaranteed by radii, and their worst results are the farthest words.
func TestFullSlipsAreGuaranteedByRadii(t *testing.T) {
	for _, c := range coverCases(t) {
		if len(c.code) == 0 {
			continue
		}
		full, _ := impl.FullSlip(c.space)
		radius, _ := impl.RadiusOf(c.space, c.code)
		hits, err := impl.GuaranteeOf(c.space, full, c.code)
		if hits != int64(len(c.space.Sizes))-radius || err != impl.ErrNone {
			t.Errorf("GuaranteeOf(%v, %v, %v) = %d, %d, and the radius is %d", c.space, full, c.code, hits, err, radius)
		}
		far, _ := impl.FarthestWord(c.space, c.code)
		if worst, err := impl.WorstResult(c.space, full, c.code); worst != far || err != impl.ErrNone {
			t.Errorf("WorstResult(%v, %v, %v) = %d, %d instead of %d", c.space, full, c.code, worst, err, far)
		}
	}
}

// checkNotNeeded holds the words that are not needed against all codes without one word.
func checkNotNeeded(t *testing.T, c poolCase) []int64 {
	t.Helper()
	want := []int64{}
	_, fewest := c.worst()
	for k, w := range c.code {
		if _, left := (poolCase{c.without(k), c.slip, c.bets}).worst(); left == fewest {
			want = append(want, w)
		}
	}
	words, err := impl.NotNeeded(c.space, c.slip, c.code)
	if !slices.Equal(words, want) || err != impl.ErrNone {
		t.Errorf("NotNeeded(%v, %v, %v) = %v, %d instead of %v", c.space, c.slip, c.code, words, err, want)
	}
	return want
}

func TestWordsThatAreNotNeeded(t *testing.T) {
	counts := map[string]int{}
	for _, c := range poolCases(t) {
		if len(c.code) < 2 || len(c.code)*len(c.code)*len(c.bets) > 50000 {
			continue
		}
		switch words := checkNotNeeded(t, c); {
		case len(words) == 0:
			counts["all are needed"]++
		case len(words) == len(c.code):
			counts["none is needed"]++
		default:
			counts["some are needed"]++
		}
	}
	if len(counts) != 3 {
		t.Errorf("the codes have only these: %v", counts)
	}
}

// In the greatest spaces, words of codes are sampled.
func TestWordsThatAreNotNeededInLargeCodes(t *testing.T) {
	for _, s := range largeSpaces(t) {
		count, _ := impl.CountWords(s)
		for _, slip := range someSlips(s) {
			for _, code := range [][]int64{upTo(count), upTo(count / 2), upTo(count)[count/2:]} {
				words, err := impl.NotNeeded(s, slip, code)
				all, _ := impl.GuaranteeOf(s, slip, code)
				if err != impl.ErrNone {
					t.Errorf("NotNeeded(%v, %v): %d", s, slip, err)
				}
				for _, k := range []int{0, 1, len(code) / 3, len(code) - 1} {
					left, _ := impl.GuaranteeOf(s, slip, slices.Delete(slices.Clone(code), k, k+1))
					if slices.Contains(words, code[k]) != (left == all) {
						t.Errorf("NotNeeded(%v, %v): %d hits without %d instead of %d", s, slip, left, code[k], all)
					}
				}
			}
		}
	}
}

func TestHitsWrittenOut(t *testing.T) {
	eight := space(t, 2, 2, 2, 2, 2, 2, 2, 2)
	three := space(t, 3, 3, 3, 3)
	hamming := []int64{0, 13, 26, 32, 42, 46, 61, 65, 75}
	for _, c := range []struct {
		space         impl.Space
		slip          impl.Slip
		code          []int64
		hits, worst   int64
		notNeeded     []int64
		result, best  int64
		prizesOfWorst []int64
	}{
		{eight, allSigns(eight), []int64{0, 255}, 4, 15, []int64{}, 7, 5, []int64{0, 0, 0, 0, 2, 0, 0, 0, 0}},
		{eight, oneSign([]int64{0, 0, 0, 0, 0, 0, 0, 1}), []int64{0, 255}, 7, 1, []int64{255}, 128, 7, []int64{0, 1, 0, 0, 0, 0, 0, 1, 0}},
		{three, allSigns(three), hamming, 3, 1, []int64{}, 13, 4, []int64{0, 1, 3, 3, 2}},
		{three, impl.Slip{7, 7, 7, 1}, hamming, 3, 3, []int64{}, 80, 3, []int64{0, 1, 3, 3, 2}},
		{three, impl.Slip{7, 1, 1, 1}, hamming, 3, 27, hamming[1:], 40, 3, []int64{0, 1, 3, 3, 2}},
		{space(t, 4), impl.Slip{12}, []int64{0, 1}, 0, 2, []int64{0, 1}, 1, 1, []int64{0, 2}},
		{space(t, 4), impl.Slip{12}, []int64{2, 3}, 1, 2, []int64{}, 0, 0, []int64{1, 1}},
		{space(t, 4), impl.Slip{4}, []int64{0, 2, 3}, 1, 2, []int64{0, 3}, 3, 1, []int64{1, 2}},
	} {
		if hits, err := impl.GuaranteeOf(c.space, c.slip, c.code); hits != c.hits || err != impl.ErrNone {
			t.Errorf("GuaranteeOf(%v, %v, %v) = %d, %d", c.space, c.slip, c.code, hits, err)
		}
		if worst, err := impl.WorstResult(c.space, c.slip, c.code); worst != c.worst || err != impl.ErrNone {
			t.Errorf("WorstResult(%v, %v, %v) = %d, %d", c.space, c.slip, c.code, worst, err)
		}
		words, err := impl.NotNeeded(c.space, c.slip, c.code)
		checkCode(t, "NotNeeded", words, err, c.notNeeded)
		if best, err := impl.BestHits(c.space, c.code, c.result); best != c.best || err != impl.ErrNone {
			t.Errorf("BestHits(%v, %v, %d) = %d, %d", c.space, c.code, c.result, best, err)
		}
		prizes, err := impl.PrizeList(c.space, c.code, c.worst)
		checkCode(t, "PrizeList", prizes, err, c.prizesOfWorst)
	}
}

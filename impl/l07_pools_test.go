package impl

import "testing"

// The channel of the bets is closed behind the last one.
func TestBetsComeOverAClosedChannel(t *testing.T) {
	s := Space{Sizes: []int64{3, 2, 4}}
	bets := Slip{5, 2, 12}.bets(s)
	for _, want := range []int64{6, 7, 22, 23} {
		if w, more := <-bets; w != want || !more {
			t.Errorf("bet %d, %v instead of %d", w, more, want)
		}
	}
	if w, more := <-bets; w != 0 || more {
		t.Errorf("bet %d, %v behind the last one", w, more)
	}
}

// callPools calls all functions that let bets come over a channel.
func callPools(s Space, t Slip, code []int64) {
	BetsOf(s, t)
	GuaranteeOf(s, t, code)
	WorstResult(s, t, code)
	NotNeeded(s, t, code)
	ReducedSystem(s, t, 1)
}

// No goroutine stays behind a call, whether it has a result or an error.
func TestBetsLeaveNoGoroutine(t *testing.T) {
	s := Space{Sizes: []int64{4, 4, 4, 4, 4}}
	checkNoGoroutineStays(t, func() {
		callPools(s, Slip{15, 15, 2, 3, 15}, []int64{0, 5, 1023})
		callPools(s, Slip{15, 15, 15, 15, 15}, []int64{7})
		callPools(s, Slip{15, 15, 15, 15, 16}, []int64{7, 8})
		callPools(s, Slip{1, 1, 1, 1, 1}, nil)
	})
}

// Each way of counting is at its index, and both count all matches together.
func TestWaysOfCounting(t *testing.T) {
	s := Space{Sizes: []int64{3, 2, 4}}
	bets := digitParts(s, allWords(s)...)
	for result := range wordCount(s) {
		hits, misses := counted(byHits, s, bets, result), counted(byMisses, s, bets, result)
		for w := range bets {
			if far := distance(s, int64(w), result); misses[w] != far || hits[w] != 3-far {
				t.Errorf("%d and %d have %d hits and %d misses", w, result, hits[w], misses[w])
			}
		}
	}
}

// The text of each set of signs is at the index that tells the set.
func TestTextsOfSets(t *testing.T) {
	texts := setTexts()
	for set, want := range map[int]string{0: "", 1: "0", 2: "1", 3: "01", 6: "12", 8: "3", 9: "03", 15: "0123"} {
		if texts[set] != want {
			t.Errorf("the set %d has the text %q", set, texts[set])
		}
	}
	if len(texts) != 16 {
		t.Errorf("%d texts", len(texts))
	}
}

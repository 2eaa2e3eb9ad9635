package tests

import (
	"slices"
	"testing"

	"loop.example/g01411/impl"
)

// soughtSpaces are all spaces of up to MaxSought words, with their places in all orders.
func soughtSpaces(t *testing.T) []impl.Space {
	return spacesUpTo(t, impl.MaxSought)
}

// spacesUpTo are all spaces of up to so many words, with their places in all orders.
func spacesUpTo(t *testing.T, words int64) []impl.Space {
	spaces := []impl.Space{}
	lists := [][]int64{{}}
	for range impl.MaxPlaces {
		longer := [][]int64{}
		for _, sizes := range lists {
			for q := int64(2); q <= 4; q++ {
				if productOf(sizes)*q <= words {
					longer = append(longer, append(slices.Clone(sizes), q))
				}
			}
		}
		for _, sizes := range longer {
			spaces = append(spaces, space(t, sizes...))
		}
		lists = longer
	}
	return spaces
}

// nearBits has for each word a bit for each word within r of it.
func nearBits(s impl.Space, r int64) []uint32 {
	near := []uint32{}
	for _, distances := range distanceTable(s) {
		bits := uint32(0)
		for w, d := range distances {
			if d <= r {
				bits |= 1 << w
			}
		}
		near = append(near, bits)
	}
	return near
}

// coverByHand tries all codes of words more words, from the word next on, in lexicographic order.
func coverByHand(near []uint32, covered uint32, next int, words int) []int64 {
	if words == 0 {
		if covered == 1<<len(near)-1 {
			return []int64{}
		}
		return nil
	}
	for w := next; w < len(near); w++ {
		if rest := coverByHand(near, covered|near[w], w+1, words-1); rest != nil {
			return append([]int64{int64(w)}, rest...)
		}
	}
	return nil
}

// firstCoverByHand tries codes of more and more words.
func firstCoverByHand(s impl.Space, r int64) []int64 {
	near := nearBits(s, r)
	for words := 1; ; words++ {
		if code := coverByHand(near, 0, 0, words); code != nil {
			return code
		}
	}
}

// apartByHand finds the first one of the longest codes of words from next on that are not taken up.
// It tries each word as the first one.
func apartByHand(near []uint32, taken uint32, next int) []int64 {
	longest := []int64{}
	for w := next; w < len(near); w++ {
		if taken>>w&1 == 1 {
			continue
		}
		if rest := apartByHand(near, taken|near[w], w+1); len(rest)+1 > len(longest) {
			longest = append([]int64{int64(w)}, rest...)
		}
	}
	return longest
}

// Least numbers are between the ball bound and the free bound, and first codes cover with so many
// words; no code of fewer words covers, and none of as many that is lexicographically less.
func TestFirstCovers(t *testing.T) {
	for _, s := range soughtSpaces(t) {
		for r := int64(1); r <= impl.MaxPlaces; r++ {
			want := firstCoverByHand(s, r)
			code, err := impl.FirstCover(s, r)
			checkCode(t, "FirstCover", code, err, want)
			least, err := impl.LeastNumber(s, r)
			if least != int64(len(want)) || err != impl.ErrNone {
				t.Errorf("LeastNumber(%v, %d) = %d, %d instead of %d", s, r, least, err, len(want))
			}
			ball, _ := impl.BallBound(s, r)
			free, _ := impl.FreeBound(s, r)
			if least < ball || least > free {
				t.Errorf("LeastNumber(%v, %d) = %d, but the bounds are %d and %d", s, r, least, ball, free)
			}
			covers, err := impl.CoversSpace(s, code, r)
			if radius, _ := impl.RadiusOf(s, code); !covers || radius > r || err != impl.ErrNone {
				t.Errorf("FirstCover(%v, %d) = %v has the radius %d, %d", s, r, code, radius, err)
			}
		}
	}
}

// The packing bound and the place bound are at least the greatest number, and first codes apart
// have it; they cannot grow.
func TestFirstCodesApart(t *testing.T) {
	for _, s := range soughtSpaces(t) {
		for d := int64(2); d <= impl.MaxPlaces+1; d++ {
			want := apartByHand(nearBits(s, d-1), 0, 0)
			code, err := impl.FirstApart(s, d)
			checkCode(t, "FirstApart", code, err, want)
			greatest, err := impl.GreatestNumber(s, d)
			if greatest != int64(len(want)) || err != impl.ErrNone {
				t.Errorf("GreatestNumber(%v, %d) = %d, %d instead of %d", s, d, greatest, err, len(want))
			}
			packing, _ := impl.PackingBound(s, d)
			place, _ := impl.PlaceBound(s, d)
			if greatest > packing || greatest > place {
				t.Errorf("GreatestNumber(%v, %d) = %d, but the bounds are %d and %d", s, d, greatest, packing, place)
			}
			checkFull(t, s, code, d)
		}
	}
}

// checkFull expects that a code is apart, that it cannot grow, and that it covers within d - 1. No
// greedy code has more words.
func checkFull(t *testing.T, s impl.Space, code []int64, d int64) {
	t.Helper()
	areApart, _ := impl.AreApart(s, code, d)
	canGrow, _ := impl.CanGrow(s, code, d)
	covers, err := impl.CoversSpace(s, code, d-1)
	if !areApart || canGrow || !covers || err != impl.ErrNone {
		t.Errorf("%v, %d, %v: apart %v, can grow %v, covers %v, %d", s, d, code, areApart, canGrow, covers, err)
	}
	greedy, _ := impl.GreedyApart(s, d)
	least, _ := impl.LeastNumber(s, d-1)
	if len(greedy) > len(code) || least > int64(len(greedy)) {
		t.Errorf("%v, %d: %v, but greedy %v, and the least number is %d", s, d, code, greedy, least)
	}
}

// Greedy codes are not all the greatest ones, and bounds are not all reached.
func TestFirstCodesWrittenOut(t *testing.T) {
	for _, c := range []struct {
		sizes []int64
		r     int64
		cover []int64
		apart []int64 // for r + 1
	}{
		{[]int64{2}, 1, []int64{0}, []int64{0}}, {[]int64{4}, 8, []int64{0}, []int64{0}},
		{[]int64{2, 2}, 1, []int64{0, 1}, []int64{0, 3}}, {[]int64{2, 2}, 2, []int64{0}, []int64{0}},
		{[]int64{3, 3}, 1, []int64{0, 1, 2}, []int64{0, 4, 8}}, {[]int64{3, 3}, 3, []int64{0}, []int64{0}},
		{[]int64{4, 4}, 1, []int64{0, 1, 2, 3}, []int64{0, 5, 10, 15}},
		{[]int64{2, 2, 2}, 1, []int64{0, 7}, []int64{0, 3, 5, 6}}, {[]int64{2, 2, 2}, 2, []int64{0, 1}, []int64{0, 7}},
		{[]int64{2, 3, 2}, 1, []int64{0, 2, 11}, []int64{0, 3, 7, 8}},
		{[]int64{2, 2, 2, 2}, 1, []int64{0, 1, 14, 15}, []int64{0, 3, 5, 6, 9, 10, 12, 15}},
		{[]int64{2, 2, 2, 3}, 1, []int64{0, 1, 2, 9, 16, 20}, []int64{0, 4, 7, 9, 13, 15, 18, 22}},
		{[]int64{3, 3, 3}, 1, []int64{0, 4, 10, 12, 26}, []int64{0, 4, 8, 10, 14, 15, 20, 21, 25}},
		{[]int64{3, 3, 3}, 2, []int64{0, 1, 2}, []int64{0, 13, 26}}, {[]int64{3, 3, 3}, 3, []int64{0}, []int64{0}},
	} {
		s := space(t, c.sizes...)
		code, err := impl.FirstCover(s, c.r)
		checkCode(t, "FirstCover", code, err, c.cover)
		least, _ := impl.LeastNumber(s, c.r)
		words, err := impl.FirstApart(s, c.r+1)
		checkCode(t, "FirstApart", words, err, c.apart)
		greatest, _ := impl.GreatestNumber(s, c.r+1)
		if least != int64(len(c.cover)) || greatest != int64(len(c.apart)) {
			t.Errorf("%v, %d: the least number is %d, the greatest one %d", s, c.r, least, greatest)
		}
	}
}

// The tests above would miss much if all bounds were reached, or all greedy codes the first ones.
func TestSoughtSpacesAreDifferent(t *testing.T) {
	counts := map[string]int{}
	for _, s := range soughtSpaces(t) {
		ball, _ := impl.BallBound(s, 1)
		least, _ := impl.LeastNumber(s, 1)
		free, _ := impl.FreeBound(s, 1)
		if ball < least && least < free {
			counts["between the bounds"]++
		}
		for d := int64(2); d <= int64(len(s.Sizes)); d++ {
			greedy, _ := impl.GreedyApart(s, d)
			code, _ := impl.FirstApart(s, d)
			if len(greedy) < len(code) {
				counts["greedy codes too short"]++
			}
		}
		if n, _ := impl.CountWords(s); n == impl.MaxSought {
			counts["MaxSought words"]++
		}
	}
	if len(counts) != 3 {
		t.Errorf("the spaces have only these: %v", counts)
	}
}

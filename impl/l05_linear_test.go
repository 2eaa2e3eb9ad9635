package impl

import (
	"errors"
	"math"
	"slices"
	"testing"
)

// Checks of bits and checks of digits are two ways to the same rests.
func TestChecksOfBitsAndOfDigits(t *testing.T) {
	s := Space{Sizes: []int64{2, 2, 2, 2, 2, 2, 2, 2}}
	for _, digits := range digitParts(s, allWords(s)...) {
		u := wordWithDigits(s, digits)
		for _, w := range allWords(s) {
			if bitCheck(u).rest(w) != (digitCheck{space: s, digits: digits}).rest(w) {
				t.Errorf("the checks by %d have different rests of %d", u, w)
			}
		}
	}
}

// A check leaves its digits as they are, so that it can be asked again.
func TestChecksStayAsTheyAre(t *testing.T) {
	s := Space{Sizes: []int64{3, 3, 3}}
	checks := checksOf(s, []int64{5, 26, 1})
	for range 3 {
		for w, want := range map[int64][]int64{0: {0, 0, 0}, 1: {2, 2, 1}, 8: {0, 2, 2}, 13: {0, 0, 1}} {
			rests := checks.numbers(func(x check) int64 { return x.rest(w) })
			if !slices.Equal(rests, want) {
				t.Errorf("the rests of %d are %v", w, rests)
			}
		}
	}
}

// Nothing goes past the door but an error code, and no result with it.
func TestPanicsBehindTheDoor(t *testing.T) {
	s, code := Space{Sizes: []int64{2, 2}}, []int64{0, 3}
	for name, ask := range map[string]func(linearCode) []int64{
		"a panic":         func(linearCode) []int64 { panic(errNotLinear) },
		"another code":    func(c linearCode) []int64 { return linearCodeOf(c.space, c.words[1:]).words },
		"another error":   func(linearCode) []int64 { panic(errors.New("something else")) },
		"a runtime error": func(c linearCode) []int64 { return []int64{c.words[math.MaxInt8]} },
	} {
		if found, err := askLinear(s, code, ask); len(found) > 0 || err != ErrState {
			t.Errorf("%s: %v, %d", name, found, err)
		}
	}
	found, err := askLinear(s, code, func(c linearCode) []int64 { return slices.Clone(c.words) })
	if !slices.Equal(found, code) || err != ErrNone {
		t.Errorf("no panic: %v, %d", found, err)
	}
}

package impl

import (
	"slices"
	"testing"
)

// A loop over a ball may be left at any word: nothing more may be handed out then.
func TestBallLeftEarly(t *testing.T) {
	s := Space{Sizes: []int64{2, 3, 4}}
	whole, _ := BallOf(s, 7, 2)
	for stop := range whole {
		words := []int64{}
		for w := range wordsWithin(s, 7, 2) {
			words = append(words, w)
			if len(words) == stop+1 {
				break
			}
		}
		if !slices.Equal(words, whole[:stop+1]) {
			t.Errorf("left after %d words: %v", stop+1, words)
		}
	}
}

// An append to the digits of one word may not change those of the next one.
func TestPartsAreClipped(t *testing.T) {
	s := Space{Sizes: []int64{2, 3, 4}}
	parts := digitParts(s, 23, 0)
	_ = append(parts[0], 9)
	if !slices.Equal(parts[0], []int64{1, 2, 3}) || !slices.Equal(parts[1], []int64{0, 0, 0}) {
		t.Errorf("parts %v", parts)
	}
}

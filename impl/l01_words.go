package impl

import (
	"cmp"
	"iter"
	"slices"
	"strings"
)

const (
	ErrNone = iota
	ErrInvalid
	ErrRange
	ErrLimit
	ErrNotFound
	ErrState
	ErrSyntax
)
const (
	MaxPlaces = 8
	MaxWords  = 1024
)

const (
	leastSize    = 2
	greatestSize = 4
)

type Space struct {
	Sizes []int64
}

// IsSpace reports whether s is a space.
func IsSpace(s Space) bool {
	// The length comes first: so few sizes cannot overflow their product.
	if len(s.Sizes) < 1 || len(s.Sizes) > MaxPlaces {
		return false
	}
	for _, q := range s.Sizes {
		if q < leastSize || q > greatestSize {
			return false
		}
	}
	return wordCount(s) <= MaxWords
}

// wordCount returns the product of all sizes.
func wordCount(s Space) int64 {
	count := int64(1)
	for _, q := range s.Sizes {
		count *= q
	}
	return count
}

// wordsError returns the error for a space and for numbers that should be words of it.
func wordsError(s Space, words ...int64) int64 {
	if !IsSpace(s) {
		return ErrInvalid
	}
	count := wordCount(s)
	for _, w := range words {
		if w < 0 || w >= count {
			return ErrRange
		}
	}
	return ErrNone
}

// ballError returns the error for a space, a word of it and a radius.
func ballError(s Space, w int64, r int64) int64 {
	err := wordsError(s, w)
	if err == ErrNone && (r < 0 || r > MaxPlaces) {
		return ErrRange
	}
	return err
}

// codeError returns the error for a space and for a list that should be a code of it.
func codeError(s Space, code []int64) int64 {
	err := wordsError(s, code...)
	if err == ErrNone && !isStrictlyAscending(code) {
		return ErrRange
	}
	return err
}

func isStrictlyAscending(list []int64) bool {
	for k := 1; k < len(list); k++ {
		if list[k-1] >= list[k] {
			return false
		}
	}
	return true
}

// areDigits reports whether a list has one digit for each place.
func areDigits(s Space, digits []int64) bool {
	if len(digits) != len(s.Sizes) {
		return false
	}
	for i, q := range s.Sizes {
		if digits[i] < 0 || digits[i] >= q {
			return false
		}
	}
	return true
}

// digitParts returns the digits of each of the words.
func digitParts(s Space, words ...int64) [][]int64 {
	n := len(s.Sizes)
	list := make([]int64, n*len(words))
	parts := make([][]int64, len(words))
	for k, w := range words {
		// The third index keeps an append to one part out of the next one.
		parts[k] = list[k*n : (k+1)*n : (k+1)*n]
		putDigits(s, w, parts[k])
	}
	return parts
}

func putDigits(s Space, w int64, digits []int64) {
	for i := len(s.Sizes) - 1; i >= 0; i-- {
		digits[i] = w % s.Sizes[i]
		w /= s.Sizes[i]
	}
}

func wordWithDigits(s Space, digits []int64) int64 {
	w := int64(0)
	for i, q := range s.Sizes {
		w = w*q + digits[i]
	}
	return w
}

// differences returns the number of places at which two lists of digits are different.
func differences(x []int64, y []int64) int64 {
	count := int64(0)
	for i := range x {
		if x[i] != y[i] {
			count++
		}
	}
	return count
}

func distance(s Space, u int64, w int64) int64 {
	parts := digitParts(s, u, w)
	return differences(parts[0], parts[1])
}

func sumOfWords(s Space, u int64, w int64) int64 {
	parts := digitParts(s, u, w)
	for i, q := range s.Sizes {
		parts[0][i] = (parts[0][i] + parts[1][i]) % q
	}
	return wordWithDigits(s, parts[0])
}

// ball has what its words are made from: the digits of its middle and its radius.
type ball struct {
	space  Space
	middle []int64
	radius int64
}

// wordsWithin ranges over the words within r of w, ascending, and over their distances from w.
func wordsWithin(s Space, w int64, r int64) iter.Seq2[int64, int64] {
	b := ball{space: s, middle: digitParts(s, w)[0], radius: r}
	return func(yield func(int64, int64) bool) {
		b.walk(0, 0, 0, yield)
	}
}

// walk goes on from the first i digits, told by the word start that they make alone and by their
// distance from the middle. It returns false as soon as yield does. Digits taken in their order
// give the words in theirs, so that nothing has to be sorted.
func (b ball) walk(i int, start int64, far int64, yield func(int64, int64) bool) bool {
	if i == len(b.middle) {
		return yield(start, far)
	}
	q := b.space.Sizes[i]
	for d := range q {
		next := far
		if d != b.middle[i] {
			next++
		}
		if next <= b.radius && !b.walk(i+1, start*q+d, next, yield) {
			return false
		}
	}
	return true
}

// CountWords returns the number of words, and ErrNone.
func CountWords(s Space) (int64, int64) {
	if !IsSpace(s) {
		return 0, ErrInvalid
	}
	return wordCount(s), ErrNone
}

// DigitsOf returns the digits of a word, and ErrNone.
func DigitsOf(s Space, w int64) ([]int64, int64) {
	if err := wordsError(s, w); err != ErrNone {
		return nil, err
	}
	return digitParts(s, w)[0], ErrNone
}

// WordOf returns the word with digits, and ErrNone.
func WordOf(s Space, digits []int64) (int64, int64) {
	if !IsSpace(s) {
		return 0, ErrInvalid
	}
	if !areDigits(s, digits) {
		return 0, ErrRange
	}
	return wordWithDigits(s, digits), ErrNone
}

// DistanceOf returns the distance of two words, and ErrNone.
func DistanceOf(s Space, u int64, w int64) (int64, int64) {
	if err := wordsError(s, u, w); err != ErrNone {
		return 0, err
	}
	return distance(s, u, w), ErrNone
}

// BallOf returns the words of the ball of a word and r, in 0..MaxPlaces, ascending, and ErrNone.
func BallOf(s Space, w int64, r int64) ([]int64, int64) {
	if err := ballError(s, w, r); err != ErrNone {
		return nil, err
	}
	words := []int64{}
	for u := range wordsWithin(s, w, r) {
		words = append(words, u)
	}
	return words, ErrNone
}

// SphereOf returns the words of the sphere of a word and r, in 0..MaxPlaces, ascending, and
// ErrNone.
func SphereOf(s Space, w int64, r int64) ([]int64, int64) {
	if err := ballError(s, w, r); err != ErrNone {
		return nil, err
	}
	words := []int64{}
	for u, far := range wordsWithin(s, w, r) {
		if far == r {
			words = append(words, u)
		}
	}
	return words, ErrNone
}

// BallSize returns the number of words of a ball of r, in 0..MaxPlaces, and ErrNone. (It is the
// same for all words.)
func BallSize(s Space, r int64) (int64, int64) {
	// The word 0 is in every space, so only s and r can be wrong.
	if err := ballError(s, 0, r); err != ErrNone {
		return 0, err
	}
	size := int64(0)
	for range wordsWithin(s, 0, r) {
		size++
	}
	return size, ErrNone
}

// WeightOf returns the weight of a word, and ErrNone.
func WeightOf(s Space, w int64) (int64, int64) {
	return DistanceOf(s, 0, w)
}

// SumOfWords returns the sum of two words, and ErrNone.
func SumOfWords(s Space, u int64, w int64) (int64, int64) {
	if err := wordsError(s, u, w); err != ErrNone {
		return 0, err
	}
	return sumOfWords(s, u, w), ErrNone
}

// OppositeWord returns the word that gives with w the sum 0, and ErrNone.
func OppositeWord(s Space, w int64) (int64, int64) {
	if err := wordsError(s, w); err != ErrNone {
		return 0, err
	}
	digits := digitParts(s, w)[0]
	for i, q := range s.Sizes {
		digits[i] = (q - digits[i]) % q
	}
	return wordWithDigits(s, digits), ErrNone
}

// ChangeDigit returns the word w with the digit d at the place i, and ErrNone.
func ChangeDigit(s Space, w int64, i int64, d int64) (int64, int64) {
	if err := wordsError(s, w); err != ErrNone {
		return 0, err
	}
	if i < 0 || i >= int64(len(s.Sizes)) || d < 0 || d >= s.Sizes[i] {
		return 0, ErrRange
	}
	digits := digitParts(s, w)[0]
	digits[i] = d
	return wordWithDigits(s, digits), ErrNone
}

// IsCode reports whether a list is a code of s, and returns ErrNone.
func IsCode(s Space, code []int64) (bool, int64) {
	if !IsSpace(s) {
		return false, ErrInvalid
	}
	return codeError(s, code) == ErrNone, ErrNone
}

// LeastDistance returns the least distance of a code, and ErrNone. Errors: ErrState if it has less
// than two words.
func LeastDistance(s Space, code []int64) (int64, int64) {
	if err := codeError(s, code); err != ErrNone {
		return 0, err
	}
	if len(code) < 2 {
		return 0, ErrState
	}
	least := int64(MaxPlaces)
	parts := digitParts(s, code...)
	for k, part := range parts {
		for _, earlier := range parts[:k] {
			least = min(least, differences(part, earlier))
		}
	}
	return least, ErrNone
}

// DistanceCounts returns, for each distance from 0 to n, the number of the ordered pairs of words
// of a code that have it, and ErrNone.
func DistanceCounts(s Space, code []int64) ([]int64, int64) {
	if err := codeError(s, code); err != ErrNone {
		return nil, err
	}
	counts := make([]int64, len(s.Sizes)+1)
	parts := digitParts(s, code...)
	for _, first := range parts {
		for _, second := range parts {
			counts[differences(first, second)]++
		}
	}
	return counts, ErrNone
}

// ShiftCode returns the code of the sums of all words of a code with w, and ErrNone.
func ShiftCode(s Space, code []int64, w int64) ([]int64, int64) {
	if err := cmp.Or(codeError(s, code), wordsError(s, w)); err != ErrNone {
		return nil, err
	}
	shifted := make([]int64, len(code))
	for k, u := range code {
		shifted[k] = sumOfWords(s, u, w)
	}
	slices.Sort(shifted)
	return shifted, ErrNone
}

// OppositeCode returns the code of all words that are not in a code, and ErrNone.
func OppositeCode(s Space, code []int64) ([]int64, int64) {
	if err := codeError(s, code); err != ErrNone {
		return nil, err
	}
	others := []int64{}
	next := 0
	for w := range wordCount(s) {
		if next < len(code) && code[next] == w {
			next++
		} else {
			others = append(others, w)
		}
	}
	return others, ErrNone
}

// digitsText returns digits, or sizes, as a text.
func digitsText(digits []int64) string {
	text := make([]byte, len(digits))
	for i, d := range digits {
		text[i] = '0' + byte(d)
	}
	return string(text)
}

// codeText returns the text of a code, empty for one without words.
func codeText(s Space, code []int64) string {
	texts := make([]string, len(code))
	for k, digits := range digitParts(s, code...) {
		texts[k] = digitsText(digits)
	}
	return strings.Join(texts, ",")
}

// wordsByText returns all words. Each has as its key the text of the code that it is alone.
func wordsByText(s Space) map[string]int64 {
	words := map[string]int64{}
	for w := range wordCount(s) {
		words[codeText(s, []int64{w})] = w
	}
	return words
}

// SpaceText returns the text of s, and ErrNone.
func SpaceText(s Space) (string, int64) {
	if !IsSpace(s) {
		return "", ErrInvalid
	}
	return digitsText(s.Sizes), ErrNone
}

// ParseSpace returns the space with a text, and ErrNone. Errors: ErrSyntax if there is none. (No
// other errors are returned.)
func ParseSpace(text string) (Space, int64) {
	// A long text is refused before memory is taken for it.
	if len(text) > MaxPlaces {
		return Space{}, ErrSyntax
	}
	s := Space{Sizes: make([]int64, len(text))}
	for i := range len(text) {
		s.Sizes[i] = int64(text[i]) - '0'
	}
	if !IsSpace(s) {
		return Space{}, ErrSyntax
	}
	return s, ErrNone
}

// CodeText returns the text of a code, and ErrNone. Errors: ErrState if it has no words.
func CodeText(s Space, code []int64) (string, int64) {
	if err := codeError(s, code); err != ErrNone {
		return "", err
	}
	if len(code) == 0 {
		return "", ErrState
	}
	return codeText(s, code), ErrNone
}

// ParseCode returns the code of s with a text, and ErrNone. Errors: ErrSyntax if there is none, also for the empty text.
func ParseCode(s Space, text string) ([]int64, int64) {
	if !IsSpace(s) {
		return nil, ErrInvalid
	}
	words := wordsByText(s)
	code := []int64{}
	for part := range strings.SplitSeq(text, ",") {
		w, known := words[part]
		if !known || len(code) > 0 && w <= code[len(code)-1] {
			return nil, ErrSyntax
		}
		code = append(code, w)
	}
	return code, ErrNone
}

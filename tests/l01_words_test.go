package tests

import (
	"fmt"
	"math"
	"slices"
	"strings"
	"testing"

	"loop.example/g01411/impl"
)

func TestErrorNumbers(t *testing.T) {
	got := []int64{impl.ErrNone, impl.ErrInvalid, impl.ErrRange, impl.ErrLimit, impl.ErrNotFound, impl.ErrState, impl.ErrSyntax}
	if !slices.Equal(got, upTo(7)) {
		t.Errorf("error codes %v", got)
	}
	if impl.MaxPlaces != 8 || impl.MaxWords != 1024 {
		t.Errorf("limits %d, %d", impl.MaxPlaces, impl.MaxWords)
	}
}

func TestSpaces(t *testing.T) {
	for _, s := range noSpaces() {
		if impl.IsSpace(s) {
			t.Errorf("IsSpace(%v) = true", s)
		}
	}
	for _, c := range []struct {
		sizes []int64
		want  int64
	}{
		{[]int64{2}, 2}, {[]int64{3}, 3}, {[]int64{4}, 4}, {[]int64{2, 3}, 6}, {[]int64{2, 3, 4}, 24},
		{[]int64{2, 2, 2, 2, 2, 2, 2, 2}, 256}, {[]int64{4, 4, 4, 4, 4}, 1024},
		{[]int64{4, 4, 2, 2, 2, 2, 2, 2}, 1024}, {[]int64{3, 3, 3, 3, 3, 4}, 972},
	} {
		s := impl.Space{Sizes: c.sizes}
		if !impl.IsSpace(s) {
			t.Errorf("IsSpace(%v) = false", c.sizes)
		}
		if n, code := impl.CountWords(s); n != c.want || code != impl.ErrNone {
			t.Errorf("CountWords(%v) = %d, %d", c.sizes, n, code)
		}
	}
}

func TestWordsComeBackFromDigits(t *testing.T) {
	for _, s := range append(smallSpaces(t), largeSpaces(t)...) {
		lists := digitLists(s.Sizes)
		if n, _ := impl.CountWords(s); n != int64(len(lists)) {
			t.Errorf("CountWords(%v) = %d", s, n)
		}
		for i, want := range lists {
			w := int64(i)
			if digits, code := impl.DigitsOf(s, w); !slices.Equal(digits, want) || code != impl.ErrNone {
				t.Errorf("DigitsOf(%v, %d) = %v, %d", s, w, digits, code)
			}
			if got, code := impl.WordOf(s, want); got != w || code != impl.ErrNone {
				t.Errorf("WordOf(%v, %v) = %d, %d", s, want, got, code)
			}
		}
	}
}

func TestDistancesAreThoseOfAMetric(t *testing.T) {
	for _, s := range smallSpaces(t) {
		lists := digitLists(s.Sizes)
		table := make([][]int64, len(lists))
		for u := range lists {
			table[u] = make([]int64, len(lists))
			for w := range lists {
				d, code := impl.DistanceOf(s, int64(u), int64(w))
				if d != apart(lists[u], lists[w]) || code != impl.ErrNone {
					t.Errorf("DistanceOf(%v, %d, %d) = %d, %d", s, u, w, d, code)
				}
				table[u][w] = d
			}
		}
		for u := range table {
			for w := range table {
				if table[u][w] != table[w][u] || (table[u][w] == 0) != (u == w) {
					t.Errorf("%v: distances of %d and %d", s, u, w)
				}
				for x := range table {
					if table[u][w] > table[u][x]+table[x][w] {
						t.Errorf("%v: %d to %d is longer than over %d", s, u, w, x)
					}
				}
			}
		}
	}
}

// ballByHand looks at all words for those whose distance lies between least and greatest.
func ballByHand(lists [][]int64, w int64, least int64, greatest int64) []int64 {
	words := []int64{}
	for u := range lists {
		if d := apart(lists[u], lists[w]); least <= d && d <= greatest {
			words = append(words, int64(u))
		}
	}
	return words
}

func TestBallsAndSpheres(t *testing.T) {
	for _, s := range append(smallSpaces(t), largeSpaces(t)...) {
		lists := digitLists(s.Sizes)
		step := 1 + int64(len(lists))/40
		for w := int64(0); w < int64(len(lists)); w += step {
			for r := range int64(impl.MaxPlaces + 1) {
				ball, code := impl.BallOf(s, w, r)
				if !slices.Equal(ball, ballByHand(lists, w, 0, r)) || code != impl.ErrNone {
					t.Errorf("BallOf(%v, %d, %d) = %v, %d", s, w, r, ball, code)
				}
				sphere, code := impl.SphereOf(s, w, r)
				if !slices.Equal(sphere, ballByHand(lists, w, r, r)) || code != impl.ErrNone {
					t.Errorf("SphereOf(%v, %d, %d) = %v, %d", s, w, r, sphere, code)
				}
			}
		}
	}
}

func TestBallsHaveTheirSizes(t *testing.T) {
	for _, s := range append(smallSpaces(t), largeSpaces(t)...) {
		n, _ := impl.CountWords(s)
		for r := range int64(impl.MaxPlaces + 1) {
			size, code := impl.BallSize(s, r)
			if code != impl.ErrNone {
				t.Errorf("BallSize(%v, %d): code %d", s, r, code)
			}
			for w := range n {
				if ball, _ := impl.BallOf(s, w, r); int64(len(ball)) != size {
					t.Errorf("BallSize(%v, %d) = %d, but %d around %d", s, r, size, len(ball), w)
				}
			}
		}
	}
	for _, c := range []struct {
		sizes   []int64
		r, want int64
	}{
		{[]int64{2}, 0, 1}, {[]int64{2}, 1, 2}, {[]int64{2}, 8, 2}, {[]int64{3, 3, 3, 3}, 1, 9},
		{[]int64{2, 2, 2, 2, 2, 2, 2, 2}, 7, 255}, {[]int64{2, 2, 2, 2, 2, 2, 2, 2}, 8, 256},
		{[]int64{2, 3, 4}, 1, 7}, {[]int64{2, 3, 4}, 2, 18}, {[]int64{4, 4, 4, 4, 4}, 5, 1024},
	} {
		if size, _ := impl.BallSize(space(t, c.sizes...), c.r); size != c.want {
			t.Errorf("BallSize(%v, %d) = %d", c.sizes, c.r, size)
		}
	}
}

func TestWeights(t *testing.T) {
	for _, s := range append(smallSpaces(t), largeSpaces(t)...) {
		lists := digitLists(s.Sizes)
		for w := range lists {
			want := apart(lists[w], make([]int64, len(s.Sizes)))
			if got, code := impl.WeightOf(s, int64(w)); got != want || code != impl.ErrNone {
				t.Errorf("WeightOf(%v, %d) = %d, %d", s, w, got, code)
			}
		}
	}
}

func TestSumsAndOppositeWords(t *testing.T) {
	for _, s := range append(smallSpaces(t), space(t, 4, 3, 2, 4, 3)) {
		lists := digitLists(s.Sizes)
		for u := range lists {
			for w := range lists {
				sum, code := impl.SumOfWords(s, int64(u), int64(w))
				if code != impl.ErrNone {
					t.Fatalf("SumOfWords(%v, %d, %d): code %d", s, u, w, code)
				}
				for i, d := range lists[sum] {
					if d != (lists[u][i]+lists[w][i])%s.Sizes[i] {
						t.Errorf("SumOfWords(%v, %d, %d) = %d", s, u, w, sum)
					}
				}
			}
			opposite, code := impl.OppositeWord(s, int64(u))
			if sum, _ := impl.SumOfWords(s, int64(u), opposite); sum != 0 || code != impl.ErrNone {
				t.Errorf("OppositeWord(%v, %d) = %d, %d", s, u, opposite, code)
			}
		}
	}
}

func TestChangeDigit(t *testing.T) {
	for _, s := range append(smallSpaces(t), largeSpaces(t)...) {
		lists := digitLists(s.Sizes)
		for w := range lists {
			for i, q := range s.Sizes {
				for d := range q {
					want := slices.Clone(lists[w])
					want[i] = d
					got, code := impl.ChangeDigit(s, int64(w), int64(i), d)
					if code != impl.ErrNone || !slices.Equal(lists[got], want) {
						t.Errorf("ChangeDigit(%v, %d, %d, %d) = %d, %d", s, w, i, d, got, code)
					}
				}
			}
		}
	}
}

// noCodes are lists that are no codes of a space of n words, n at least 2.
func noCodes(n int64) [][]int64 {
	return [][]int64{
		{-1}, {n}, {0, n}, {n, 0}, {-1, 0}, {0, 0}, {1, 0}, {0, 1, 1}, {0, 1, 0},
		{math.MinInt64}, {math.MaxInt64}, {0, math.MaxInt64}, {math.MinInt64, math.MaxInt64},
		append(upTo(n), n), append(upTo(n), n-1),
	}
}

func TestIsCode(t *testing.T) {
	for _, s := range append(smallSpaces(t), largeSpaces(t)...) {
		n, _ := impl.CountWords(s)
		for _, list := range [][]int64{nil, {}, {0}, {n - 1}, {0, 1}, {0, n - 1}, upTo(n), upTo(n)[1:]} {
			if yes, code := impl.IsCode(s, list); !yes || code != impl.ErrNone {
				t.Errorf("IsCode(%v, %v) = %v, %d", s, list, yes, code)
			}
		}
		for _, list := range noCodes(n) {
			if yes, code := impl.IsCode(s, list); yes || code != impl.ErrNone {
				t.Errorf("IsCode(%v, %v) = %v, %d", s, list, yes, code)
			}
		}
	}
}

// someCodes are codes of a space: of no word, of one, of all, and others.
func someCodes(s impl.Space) [][]int64 {
	n, _ := impl.CountWords(s)
	codes := [][]int64{nil, {0}, {n - 1}, {0, n - 1}, {0, 1}, upTo(n), upTo(n)[1:]}
	for step := int64(2); step < 9; step++ {
		code := []int64{}
		for w := step / 3; w < n; w += step + w%step {
			code = append(code, w)
		}
		codes = append(codes, code)
	}
	return codes
}

// countsByHand counts the distances of the ordered pairs of words.
func countsByHand(s impl.Space, code []int64) []int64 {
	lists := digitLists(s.Sizes)
	counts := make([]int64, len(s.Sizes)+1)
	for _, u := range code {
		for _, w := range code {
			counts[apart(lists[u], lists[w])]++
		}
	}
	return counts
}

func TestDistancesOfCodes(t *testing.T) {
	for _, s := range append(smallSpaces(t), largeSpaces(t)...) {
		for _, code := range someCodes(s) {
			want := countsByHand(s, code)
			if counts, err := impl.DistanceCounts(s, code); !slices.Equal(counts, want) || err != impl.ErrNone {
				t.Errorf("DistanceCounts(%v, %v) = %v, %d", s, code, counts, err)
			}
			if len(code) < 2 {
				continue
			}
			least := int64(1)
			for want[least] == 0 {
				least++
			}
			if d, err := impl.LeastDistance(s, code); d != least || err != impl.ErrNone {
				t.Errorf("LeastDistance(%v, %v) = %d, %d", s, code, d, err)
			}
		}
	}
	for _, code := range [][]int64{nil, {}, {0}, {255}} {
		if d, err := impl.LeastDistance(space(t, 2, 2, 2, 2, 2, 2, 2, 2), code); d != 0 || err != impl.ErrState {
			t.Errorf("LeastDistance of %v = %d, %d", code, d, err)
		}
	}
	if d, err := impl.LeastDistance(space(t, 2, 2, 2, 2, 2, 2, 2, 2), []int64{0, 255}); d != 8 || err != impl.ErrNone {
		t.Errorf("LeastDistance = %d, %d", d, err)
	}
}

func TestShiftedCodes(t *testing.T) {
	for _, s := range append(smallSpaces(t), space(t, 4, 4, 4, 4)) {
		n, _ := impl.CountWords(s)
		for _, code := range someCodes(s) {
			for w := int64(0); w < n; w += 1 + n/24 {
				checkShift(t, s, code, w)
			}
		}
	}
}

// checkShift holds a shifted code against sums of words, counts of distances and the way back.
func checkShift(t *testing.T, s impl.Space, code []int64, w int64) {
	t.Helper()
	want := []int64{}
	for _, u := range code {
		sum, _ := impl.SumOfWords(s, u, w)
		want = append(want, sum)
	}
	slices.Sort(want)
	shifted, err := impl.ShiftCode(s, code, w)
	if !slices.Equal(shifted, want) || err != impl.ErrNone {
		t.Errorf("ShiftCode(%v, %v, %d) = %v, %d", s, code, w, shifted, err)
	}
	if yes, _ := impl.IsCode(s, shifted); !yes {
		t.Errorf("ShiftCode(%v, %v, %d) is no code", s, code, w)
	}
	before, _ := impl.DistanceCounts(s, code)
	after, _ := impl.DistanceCounts(s, shifted)
	if !slices.Equal(before, after) {
		t.Errorf("%v: counts of %v change when shifted by %d", s, code, w)
	}
	opposite, _ := impl.OppositeWord(s, w)
	if back, _ := impl.ShiftCode(s, shifted, opposite); !slices.Equal(back, code) {
		t.Errorf("%v: %v shifted by %d and back is %v", s, code, w, back)
	}
}

func TestOppositeCodes(t *testing.T) {
	for _, s := range append(smallSpaces(t), largeSpaces(t)...) {
		n, _ := impl.CountWords(s)
		for _, code := range someCodes(s) {
			want := slices.DeleteFunc(upTo(n), func(w int64) bool { return slices.Contains(code, w) })
			opposite, err := impl.OppositeCode(s, code)
			if !slices.Equal(opposite, want) || err != impl.ErrNone {
				t.Errorf("OppositeCode(%v, %v) = %v, %d", s, code, opposite, err)
			}
			if back, err := impl.OppositeCode(s, opposite); !slices.Equal(back, code) || err != impl.ErrNone {
				t.Errorf("%v: opposite of the opposite of %v is %v, %d", s, code, back, err)
			}
		}
	}
}

// textsOfDigits returns all texts of up to n of the signs.
func textsOfDigits(n int, signs string) []string {
	texts := []string{""}
	for first := 0; n > 0; n-- {
		last := len(texts)
		for _, text := range texts[first:last] {
			for _, sign := range signs {
				texts = append(texts, text+string(sign))
			}
		}
		first = last
	}
	return texts
}

// isTextOfSpace says by the text alone whether it is that of a space.
func isTextOfSpace(text string) bool {
	words := 1
	for i := range len(text) {
		if !strings.Contains("234", text[i:i+1]) {
			return false
		}
		words *= int(text[i] - '0')
	}
	return 1 <= len(text) && len(text) <= 8 && words <= 1024
}

func TestSpacesComeBackFromTexts(t *testing.T) {
	found := 0
	for _, text := range append(textsOfDigits(9, "234"), textsOfDigits(5, "012345")...) {
		s, code := impl.ParseSpace(text)
		if !isTextOfSpace(text) {
			if s.Sizes != nil || code != impl.ErrSyntax {
				t.Errorf("ParseSpace(%q) = %v, %d", text, s, code)
			}
			continue
		}
		found++
		if back, err := impl.SpaceText(s); code != impl.ErrNone || !impl.IsSpace(s) || back != text || err != impl.ErrNone {
			t.Errorf("ParseSpace(%q) = %v, %d; its text is %q, %d", text, s, code, back, err)
		}
	}
	if found < 1000 {
		t.Errorf("only %d spaces", found)
	}
	if s, _ := impl.ParseSpace("4332"); !slices.Equal(s.Sizes, []int64{4, 3, 3, 2}) {
		t.Errorf("ParseSpace = %v", s)
	}
}

func TestTextsWithoutSpaces(t *testing.T) {
	for _, text := range []string{
		"", " ", "2 ", " 2", "2,2", "-2", "+2", "2\n", "\x002", "2a", "a", "5", "1", "0", "9", "/", ":", "1024", "21", "42222225",
		"222222222", "444442", "444233", "233444", "²", "２", "2\xff", "\x80", "\xb2", "\xff", strings.Repeat("2", 100000),
	} {
		if s, code := impl.ParseSpace(text); s.Sizes != nil || code != impl.ErrSyntax {
			t.Errorf("ParseSpace(%.20q) = %v, %d", text, s, code)
		}
	}
}

// codeTextByHand joins the digits of the words of a code.
func codeTextByHand(s impl.Space, code []int64) string {
	lists := digitLists(s.Sizes)
	texts := []string{}
	for _, w := range code {
		texts = append(texts, strings.Trim(strings.ReplaceAll(fmt.Sprint(lists[w]), " ", ""), "[]"))
	}
	return strings.Join(texts, ",")
}

func TestCodesComeBackFromTexts(t *testing.T) {
	for _, s := range append(smallSpaces(t), largeSpaces(t)...) {
		for _, code := range someCodes(s) {
			if len(code) == 0 {
				continue
			}
			want := codeTextByHand(s, code)
			if text, err := impl.CodeText(s, code); text != want || err != impl.ErrNone {
				t.Errorf("CodeText(%v, %v) = %q, %d", s, code, text, err)
			}
			if back, err := impl.ParseCode(s, want); !slices.Equal(back, code) || err != impl.ErrNone {
				t.Errorf("ParseCode(%v, %q) = %v, %d", s, want, back, err)
			}
		}
	}
	for _, code := range [][]int64{nil, {}} {
		if text, err := impl.CodeText(space(t, 2), code); text != "" || err != impl.ErrState {
			t.Errorf("CodeText of no words = %q, %d", text, err)
		}
	}
}

func TestTextsWithoutCodes(t *testing.T) {
	s := space(t, 2, 3)
	for _, text := range []string{
		"", ",", "0", "1", "000", "20", "03", "0", "0a", "a0", "/0", "0/", " 00", "00 ", "0 0", "00,", ",00", "00,,01", "00, 01",
		"00;01", "00\n", "00,00", "01,00", "00,12,11", "12,12", "00,01,02,10,11,12,12", "00,13", "-1", "+0", "00,1", "1200", "00\x00",
		"0\xb0", "００", strings.Repeat("00,", 50000), strings.Repeat(",", 100000), strings.Repeat("0", 100000),
	} {
		if code, err := impl.ParseCode(s, text); len(code) != 0 || err != impl.ErrSyntax {
			t.Errorf("ParseCode(%.20q) = %v, %d", text, code, err)
		}
	}
	// Texts of one more word than there are, and of words of a longer and a shorter space.
	whole, _ := impl.CodeText(space(t, 4, 4, 4, 4, 4), upTo(1024))
	for _, text := range []string{whole + ",33333", whole + ",00000", "0000", "000000"} {
		if code, err := impl.ParseCode(space(t, 4, 4, 4, 4, 4), text); len(code) != 0 || err != impl.ErrSyntax {
			t.Errorf("ParseCode(%.20q..) = %d words, %d", text, len(code), err)
		}
	}
}

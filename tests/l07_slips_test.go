package tests

import (
	"slices"
	"strings"
	"testing"

	"loop.example/g01411/impl"
)

// slipCase is a slip of a space, with the digits of all words and the bets found by hand.
type slipCase struct {
	space  impl.Space
	digits [][]int64
	slip   impl.Slip
	bets   []int64
}

// newSlipCase tries all words one after the other.
func newSlipCase(s impl.Space, digits [][]int64, slip impl.Slip) slipCase {
	c := slipCase{space: s, digits: digits, slip: slip, bets: []int64{}}
	for w, signs := range digits {
		isBet := true
		for i, d := range signs {
			isBet = isBet && strings.Contains(signTexts()[slip[i]], string(rune('0'+d)))
		}
		if isBet {
			c.bets = append(c.bets, int64(w))
		}
	}
	return c
}

// signTexts are the texts of the sets of signs 0 to 15, written out.
func signTexts() []string {
	return []string{"", "0", "1", "01", "2", "02", "12", "012", "3", "03", "13", "013", "23", "023", "123", "0123"}
}

// slipTextByHand puts together the texts of the sets.
func slipTextByHand(slip impl.Slip) string {
	texts := []string{}
	for _, set := range slip {
		texts = append(texts, signTexts()[set])
	}
	return strings.Join(texts, ".")
}

// allSlips are all slips of a space.
func allSlips(s impl.Space) []impl.Slip {
	counts := []int64{}
	for _, q := range s.Sizes {
		counts = append(counts, power(2, q)-1)
	}
	slips := []impl.Slip{}
	for _, list := range digitLists(counts) {
		for i := range list {
			list[i]++
		}
		slips = append(slips, list)
	}
	return slips
}

// oneSign is the slip of one bet.
func oneSign(digits []int64) impl.Slip {
	slip := impl.Slip{}
	for _, d := range digits {
		slip = append(slip, power(2, d))
	}
	return slip
}

// allSigns is the slip of all bets.
func allSigns(s impl.Space) impl.Slip {
	slip := impl.Slip{}
	for _, q := range s.Sizes {
		slip = append(slip, power(2, q)-1)
	}
	return slip
}

// someSlips are slips of a space: of one bet, of all, with all signs at the first or the last match
// alone, with two signs each, and others.
func someSlips(s impl.Space) []impl.Slip {
	digits := digitLists(s.Sizes)
	n := len(s.Sizes)
	slips := []impl.Slip{oneSign(digits[0]), oneSign(digits[len(digits)-1]), oneSign(digits[len(digits)/2]), allSigns(s)}
	for _, i := range []int{0, n - 1} {
		first, rest := oneSign(digits[len(digits)/3]), allSigns(s)
		first[i], rest[i] = rest[i], first[i]
		slips = append(slips, first, rest)
	}
	for k := range 4 {
		slip := impl.Slip{}
		for i, q := range s.Sizes {
			slip = append(slip, 1+(int64(k*i+k+5*i*i))%(power(2, q)-1))
		}
		slips = append(slips, slip)
	}
	return append(slips, slices.Repeat(impl.Slip{3}, n))
}

// slipCases are all slips of the small spaces, and some of the greatest ones.
func slipCases(t *testing.T) []slipCase {
	cases := []slipCase{}
	for _, s := range smallSpaces(t) {
		digits := digitLists(s.Sizes)
		for _, slip := range allSlips(s) {
			cases = append(cases, newSlipCase(s, digits, slip))
		}
	}
	for _, s := range largeSpaces(t) {
		digits := digitLists(s.Sizes)
		for _, slip := range someSlips(s) {
			cases = append(cases, newSlipCase(s, digits, slip))
		}
	}
	return cases
}

// noSlips are lists that are no slips of a space, each for another reason, at each match.
func noSlips(s impl.Space) []impl.Slip {
	full := allSigns(s)
	slips := []impl.Slip{
		nil, {}, full[1:], append(slices.Clone(full), 1), append(slices.Clone(full), 0), append(impl.Slip{1}, full...),
		make(impl.Slip, len(full)), make(impl.Slip, 70),
	}
	for i, q := range s.Sizes {
		lacking := power(2, q)
		for _, set := range []int64{0, -1, lacking, lacking + 1, 2*lacking - 1, 16, 31, -lacking, -lacking - 1, 1 << 32, 1<<32 + 1, -1 << 63, 1<<63 - 1, 1 - 1<<63} {
			slip := slices.Clone(full)
			slip[i] = set
			slips = append(slips, slip)
		}
	}
	return slips
}

func TestSlipsAndOtherLists(t *testing.T) {
	for _, c := range slipCases(t) {
		if yes, err := impl.IsSlip(c.space, c.slip); !yes || err != impl.ErrNone {
			t.Errorf("IsSlip(%v, %v) = %v, %d", c.space, c.slip, yes, err)
		}
	}
	for _, s := range append(smallSpaces(t), largeSpaces(t)...) {
		for _, slip := range noSlips(s) {
			if yes, err := impl.IsSlip(s, slip); yes || err != impl.ErrNone {
				t.Errorf("IsSlip(%v, %v) = %v, %d", s, slip, yes, err)
			}
		}
	}
}

func TestFullSlips(t *testing.T) {
	for _, s := range append(smallSpaces(t), largeSpaces(t)...) {
		full, err := impl.FullSlip(s)
		if !slices.Equal(full, allSigns(s)) || err != impl.ErrNone {
			t.Errorf("FullSlip(%v) = %v, %d", s, full, err)
		}
		count, _ := impl.CountWords(s)
		if bets, err := impl.BetsOf(s, full); !slices.Equal(bets, upTo(count)) || err != impl.ErrNone {
			t.Errorf("BetsOf(%v, %v) = %v, %d", s, full, bets, err)
		}
	}
}

func TestBetsOfSlips(t *testing.T) {
	for _, c := range slipCases(t) {
		bets, err := impl.BetsOf(c.space, c.slip)
		if !slices.Equal(bets, c.bets) || err != impl.ErrNone {
			t.Errorf("BetsOf(%v, %v) = %v, %d instead of %v", c.space, c.slip, bets, err, c.bets)
		}
		if isCode, _ := impl.IsCode(c.space, bets); !isCode {
			t.Errorf("BetsOf(%v, %v) = %v is no code", c.space, c.slip, bets)
		}
		product := int64(1)
		for _, set := range c.slip {
			product *= int64(len(signTexts()[set]))
		}
		if count, err := impl.CountBets(c.space, c.slip); count != product || count != int64(len(c.bets)) || err != impl.ErrNone {
			t.Errorf("CountBets(%v, %v) = %d, %d", c.space, c.slip, count, err)
		}
	}
}

// slipPairs are pairs of slips: all of the smallest spaces, some of the greater ones.
func slipPairs(t *testing.T) [][2]slipCase {
	pairs := [][2]slipCase{}
	for _, s := range append(smallSpaces(t), largeSpaces(t)...) {
		slips, digits := someSlips(s), digitLists(s.Sizes)
		if len(digits) <= 9 {
			slips = allSlips(s)
		}
		for _, first := range slips {
			for _, second := range slips {
				pairs = append(pairs, [2]slipCase{newSlipCase(s, digits, first), newSlipCase(s, digits, second)})
			}
		}
	}
	return pairs
}

func TestSlipsInCommon(t *testing.T) {
	disjoint := 0
	for _, pair := range slipPairs(t) {
		s, first, second := pair[0].space, pair[0].slip, pair[1].slip
		common, err := impl.SlipsInCommon(s, first, second)
		want := slices.DeleteFunc(slices.Clone(pair[0].bets), func(w int64) bool { return !slices.Contains(pair[1].bets, w) })
		if len(want) == 0 {
			disjoint++
			fails(t, "SlipsInCommon", list(common, err), impl.ErrNotFound)
			continue
		}
		bets, other := impl.BetsOf(s, common)
		if !slices.Equal(bets, want) || err != impl.ErrNone || other != impl.ErrNone {
			t.Errorf("SlipsInCommon(%v, %v, %v) = %v, %d with the bets %v", s, first, second, common, err, bets)
		}
	}
	if disjoint == 0 {
		t.Errorf("no slips are without a bet in common")
	}
}

// checkSplit expects the slips of one sign each at a match, which have all bets of the slip once.
func checkSplit(t *testing.T, c slipCase, i int) {
	t.Helper()
	split, err := impl.SplitSlip(c.space, c.slip, int64(i))
	if len(split) != len(signTexts()[c.slip[i]]) || err != impl.ErrNone {
		t.Fatalf("SplitSlip(%v, %v, %d) = %v, %d", c.space, c.slip, i, split, err)
	}
	together := []int64{}
	for k, slip := range split {
		want := slices.Clone(c.slip)
		want[i] = power(2, int64(signTexts()[c.slip[i]][k]-'0'))
		if !slices.Equal(slip, want) {
			t.Errorf("SplitSlip(%v, %v, %d) has the slip %v instead of %v", c.space, c.slip, i, slip, want)
		}
		bets, err := impl.BetsOf(c.space, slip)
		if err != impl.ErrNone {
			t.Errorf("BetsOf(%v, %v): %d", c.space, slip, err)
		}
		together = append(together, bets...)
	}
	slices.Sort(together)
	if !slices.Equal(together, c.bets) {
		t.Errorf("SplitSlip(%v, %v, %d) has together the bets %v instead of %v", c.space, c.slip, i, together, c.bets)
	}
}

// Split slips have all bets once.
func TestSplitSlips(t *testing.T) {
	for _, c := range slipCases(t) {
		for i := range c.slip {
			checkSplit(t, c, i)
		}
	}
}

// leastByHand finds, among all slips, those with all words of the code and the fewest bets.
func leastByHand(cases []slipCase, code []int64) []impl.Slip {
	least, fewest := []impl.Slip{}, 0
	for _, c := range cases {
		if !hasAll(c.bets, code) || len(least) > 0 && len(c.bets) > fewest {
			continue
		}
		if len(least) > 0 && len(c.bets) < fewest {
			least = nil
		}
		least, fewest = append(least, c.slip), len(c.bets)
	}
	return least
}

func TestLeastSlips(t *testing.T) {
	for _, s := range smallSpaces(t) {
		digits, cases := digitLists(s.Sizes), []slipCase{}
		for _, slip := range allSlips(s) {
			cases = append(cases, newSlipCase(s, digits, slip))
		}
		codes := someCodes(s)
		if len(digits) <= 9 {
			codes = allCodes(int64(len(digits)))
		}
		for _, code := range codes {
			if len(code) == 0 {
				continue
			}
			want := leastByHand(cases, code)
			if slip, err := impl.LeastSlip(s, code); len(want) != 1 || !slices.Equal(slip, want[0]) || err != impl.ErrNone {
				t.Errorf("LeastSlip(%v, %v) = %v, %d instead of %v", s, code, slip, err, want)
			}
		}
	}
}

// The least slip for the bets of a slip is the slip itself.
func TestLeastSlipsOfBets(t *testing.T) {
	for _, c := range slipCases(t) {
		if slip, err := impl.LeastSlip(c.space, c.bets); !slices.Equal(slip, c.slip) || err != impl.ErrNone {
			t.Errorf("LeastSlip(%v, %v) = %v, %d instead of %v", c.space, c.bets, slip, err, c.slip)
		}
	}
}

func TestSlipsComeBackFromTexts(t *testing.T) {
	for _, c := range slipCases(t) {
		want := slipTextByHand(c.slip)
		if text, err := impl.SlipText(c.space, c.slip); text != want || err != impl.ErrNone {
			t.Errorf("SlipText(%v, %v) = %q, %d instead of %q", c.space, c.slip, text, err, want)
		}
		if back, err := impl.ParseSlip(c.space, want); !slices.Equal(back, c.slip) || err != impl.ErrNone {
			t.Errorf("ParseSlip(%v, %q) = %v, %d instead of %v", c.space, want, back, err, c.slip)
		}
	}
}

// Of all short texts, those of slips are the only ones.
func TestShortTextsOfSlips(t *testing.T) {
	for _, s := range []impl.Space{space(t, 2), space(t, 3), space(t, 4), space(t, 2, 2), space(t, 2, 3), space(t, 2, 2, 2)} {
		slips := map[string]impl.Slip{}
		for _, slip := range allSlips(s) {
			slips[slipTextByHand(slip)] = slip
		}
		found := 0
		for _, text := range textsOfDigits(6, "0123.") {
			slip, err := impl.ParseSlip(s, text)
			want, isText := slips[text]
			if !isText {
				fails(t, "ParseSlip of "+text, list(slip, err), impl.ErrSyntax)
				continue
			}
			found++
			if !slices.Equal(slip, want) || err != impl.ErrNone {
				t.Errorf("ParseSlip(%v, %q) = %v, %d instead of %v", s, text, slip, err, want)
			}
		}
		if found == 0 {
			t.Errorf("%v: no text is that of a slip", s)
		}
	}
}

func TestTextsWithoutSlips(t *testing.T) {
	s := space(t, 3, 3, 2)
	for _, text := range []string{
		"", ".", "..", "...", "0", "0.", "0.0", "0.0.", ".0.0", "0..0", "0.0.0.", ".0.0.0", "0.0.0.0", "0.0..0", "0.0.2", "3.0.0", "0.3.0", "0.0.3",
		"013.0.0", "10.0.0", "0.21.0", "0.0.10", "00.0.0", "0.011.0", "0.0.11", "012.012.012", "0121.0.0", " 0.0.0", "0.0.0 ", "0. 0.0", "0 .0.0",
		"0,0,0", "0.0,0", "0.0.0\n", "0.0.\x00", "0.0.0\x00", "-0.0.0", "+0.0.0", "-1.0.0", "/.0.0", "0.0./", "a.0.0", "0.0.\xb0", "０.０.０", "0.0.\xff", "0．0．0",
		"7.7.3", "1.1.1.1", strings.Repeat("0.", 50000), strings.Repeat(".", 100000), strings.Repeat("0", 100000), "0.0." + strings.Repeat("1", 100000),
	} {
		slip, err := impl.ParseSlip(s, text)
		if len(slip) != 0 || err != impl.ErrSyntax {
			t.Errorf("ParseSlip(%.20q) = %v, %d", text, slip, err)
		}
	}
	// The text of a slip is none for the other spaces whose matches are fewer, more or of lesser sizes.
	for _, x := range []impl.Space{space(t, 3, 3), space(t, 3, 3, 2, 2), space(t, 2, 3, 2), space(t, 3, 2, 3), space(t, 2, 2, 2, 2, 2, 2, 2, 2)} {
		fails(t, "ParseSlip", list(impl.ParseSlip(x, "012.012.01")), impl.ErrSyntax)
	}
	// So are texts of the greatest number of matches and one more.
	longest := space(t, 2, 2, 2, 2, 2, 2, 2, 2)
	for _, text := range []string{"0.0.0.0.0.0.0.0.0", "0.0.0.0.0.0.0.0.", "0.0.0.0.0.0.0", "0.0.0.0.0.0.0.", "0.0.0.0.0.0.0.2"} {
		fails(t, "ParseSlip of "+text, list(impl.ParseSlip(longest, text)), impl.ErrSyntax)
	}
}

func TestSlipsWrittenOut(t *testing.T) {
	for _, c := range []struct {
		sizes []int64
		slip  impl.Slip
		text  string
		bets  []int64
	}{
		{[]int64{2}, impl.Slip{1}, "0", []int64{0}},
		{[]int64{2}, impl.Slip{3}, "01", []int64{0, 1}},
		{[]int64{4}, impl.Slip{8}, "3", []int64{3}},
		{[]int64{4}, impl.Slip{10}, "13", []int64{1, 3}},
		{[]int64{4}, impl.Slip{15}, "0123", []int64{0, 1, 2, 3}},
		{[]int64{3, 2}, impl.Slip{5, 2}, "02.1", []int64{1, 5}},
		{[]int64{2, 3}, impl.Slip{3, 6}, "01.12", []int64{1, 2, 4, 5}},
		{[]int64{3, 3, 2}, impl.Slip{3, 4, 3}, "01.2.01", []int64{4, 5, 10, 11}},
		{[]int64{2, 2, 2, 2, 2, 2, 2, 2}, impl.Slip{2, 1, 1, 1, 1, 1, 1, 3}, "1.0.0.0.0.0.0.01", []int64{128, 129}},
	} {
		s := space(t, c.sizes...)
		bets, err := impl.BetsOf(s, c.slip)
		checkCode(t, "BetsOf", bets, err, c.bets)
		if text, err := impl.SlipText(s, c.slip); text != c.text || err != impl.ErrNone {
			t.Errorf("SlipText(%v, %v) = %q, %d", s, c.slip, text, err)
		}
		slip, err := impl.ParseSlip(s, c.text)
		checkCode(t, "ParseSlip", slip, err, c.slip)
		slip, err = impl.LeastSlip(s, c.bets)
		checkCode(t, "LeastSlip", slip, err, c.slip)
	}
}

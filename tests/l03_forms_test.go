package tests

import (
	"slices"
	"testing"

	"loop.example/g01411/impl"
)

// formWays are, for each order of places by which all sizes stay and each shift, the words that
// come from all words.
func formWays(s impl.Space) [][]int64 {
	lists, ways := digitLists(s.Sizes), [][]int64{}
	for _, p := range permutations(len(s.Sizes)) {
		if !slices.Equal(moved(s.Sizes, p), s.Sizes) {
			continue
		}
		for _, shift := range lists {
			way := []int64{}
			for _, digits := range lists {
				way = append(way, movedAndShifted(s.Sizes, digits, p, shift))
			}
			ways = append(ways, way)
		}
	}
	return ways
}

// movedAndShifted is the word with digits after an order and a shift.
func movedAndShifted(sizes []int64, digits []int64, p []int64, shift []int64) int64 {
	w, there := int64(0), moved(digits, p)
	for i, q := range sizes {
		w = w*q + (there[i]+shift[i])%q
	}
	return w
}

// formBy is the form of a code that comes by a way.
func formBy(way []int64, code []int64) []int64 {
	form := []int64{}
	for _, w := range code {
		form = append(form, way[w])
	}
	slices.Sort(form)
	return form
}

// formSpaces are spaces of up to MaxFormWords words.
func formSpaces(t *testing.T) []impl.Space {
	return append(smallSpaces(t), space(t, 2, 2, 2, 2), space(t, 2, 3, 2, 3), space(t, 4, 4, 4), space(t, 3, 3, 3, 3))
}

// Least forms are forms, no form is less, and what keeps a code is counted.
func TestLeastForms(t *testing.T) {
	for _, s := range formSpaces(t) {
		ways := formWays(s)
		for _, code := range sumCodes(s) {
			checkForms(t, s, code, ways)
		}
	}
}

// Six places of the size 2 have the most orders.
func TestLeastFormsOfMostOrders(t *testing.T) {
	s := space(t, 2, 2, 2, 2, 2, 2)
	ways := formWays(s)
	if len(ways) != 720*64 {
		t.Fatalf("the test is wrong: %d ways", len(ways))
	}
	for _, code := range [][]int64{nil, {63}, {5, 9, 60}, {3, 7, 8, 17, 22, 40, 41, 59}, upTo(64)[1:]} {
		checkForms(t, s, code, ways)
	}
}

func checkForms(t *testing.T, s impl.Space, code []int64, ways [][]int64) {
	t.Helper()
	least, keeping := code, int64(0)
	for _, way := range ways {
		form := formBy(way, code)
		if slices.Compare(form, least) < 0 {
			least = form
		}
		if slices.Equal(form, code) {
			keeping++
		}
	}
	form, err := impl.LeastForm(s, code)
	checkCode(t, "LeastForm", form, err, least)
	if count, err := impl.CountKeeping(s, code); count != keeping || err != impl.ErrNone {
		t.Errorf("CountKeeping(%v, %v) = %d, %d instead of %d", s, code, count, err, keeping)
	}
	again, err := impl.LeastForm(s, form)
	checkCode(t, "LeastForm of LeastForm", again, err, least)
}

// Forms of a code are alike, and have the same least form.
func TestFormsAreAlike(t *testing.T) {
	for _, s := range []impl.Space{space(t, 4), space(t, 2, 3), space(t, 2, 2, 2), space(t, 3, 3), space(t, 2, 3, 2), space(t, 3, 3, 2)} {
		ways := formWays(s)
		for _, code := range someCodes(s) {
			least, _ := impl.LeastForm(s, code)
			for _, way := range ways {
				form := formBy(way, code)
				checkAlike(t, s, code, form, true)
				other, err := impl.LeastForm(s, form)
				checkCode(t, "LeastForm", other, err, least)
			}
		}
	}
}

func checkAlike(t *testing.T, s impl.Space, code []int64, other []int64, want bool) {
	t.Helper()
	if alike, err := impl.AreAlike(s, code, other); alike != want || err != impl.ErrNone {
		t.Errorf("AreAlike(%v, %v, %v) = %v, %d", s, code, other, alike, err)
	}
}

// Codes are alike just if one is a form of the other one.
func TestWhichCodesAreAlike(t *testing.T) {
	for _, s := range []impl.Space{space(t, 3), space(t, 4), space(t, 2, 2), space(t, 2, 3)} {
		n, _ := impl.CountWords(s)
		ways := formWays(s)
		for _, code := range allCodes(n) {
			for _, other := range allCodes(n) {
				isForm := slices.ContainsFunc(ways, func(way []int64) bool { return slices.Equal(formBy(way, code), other) })
				checkAlike(t, s, code, other, isForm)
			}
		}
	}
	s := space(t, 2, 2, 2)
	ways := formWays(s)
	for k, code := range allCodes(8) {
		other := allCodes(8)[(k*37+11)%256]
		isForm := slices.ContainsFunc(ways, func(way []int64) bool { return slices.Equal(formBy(way, code), other) })
		checkAlike(t, s, code, other, isForm)
	}
}

func TestFormsWrittenOut(t *testing.T) {
	for _, c := range []struct {
		sizes, code, least []int64
		keeping            int64
	}{
		{[]int64{2}, nil, nil, 2}, {[]int64{2}, []int64{1}, []int64{0}, 1}, {[]int64{2}, []int64{0, 1}, []int64{0, 1}, 2},
		// Shifts alone exchange signs: 0 and 2 of four are not alike to 0 and 1.
		{[]int64{4}, []int64{1, 3}, []int64{0, 2}, 2}, {[]int64{4}, []int64{0, 3}, []int64{0, 1}, 1},
		{[]int64{3}, []int64{0, 2}, []int64{0, 1}, 1},
		// Places of different sizes are not exchanged: 00 and 10 are not alike to 00 and 01.
		{[]int64{2, 3}, []int64{0, 3}, []int64{0, 3}, 2}, {[]int64{2, 3}, []int64{3, 5}, []int64{0, 1}, 1},
		// Those of the same size are: 00 and 10 become 00 and 01.
		{[]int64{2, 2}, []int64{0, 2}, []int64{0, 1}, 2}, {[]int64{3, 3}, []int64{0, 3}, []int64{0, 1}, 1},
		{[]int64{2, 3, 2}, []int64{0, 6}, []int64{0, 1}, 2}, {[]int64{2, 3, 2}, []int64{0, 7}, []int64{0, 7}, 4},
		{[]int64{2, 2, 2}, []int64{0, 7}, []int64{0, 7}, 12}, {[]int64{2, 2, 2}, []int64{1, 2, 4, 7}, []int64{0, 3, 5, 6}, 24},
		{[]int64{2, 2, 2}, upTo(8), upTo(8), 48}, {[]int64{2, 2, 2}, nil, nil, 48},
		{[]int64{2, 2, 2, 2, 2, 2}, nil, nil, 46080}, {[]int64{2, 2, 2, 2, 2, 2}, upTo(64), upTo(64), 46080},
		// MaxFormWords words.
		{[]int64{3, 3, 3, 3}, []int64{80}, []int64{0}, 24}, {[]int64{3, 3, 3, 3}, upTo(81), upTo(81), 24 * 81},
		{[]int64{3, 3, 3, 3}, []int64{40, 67}, []int64{0, 1}, 6},
	} {
		s := space(t, c.sizes...)
		form, err := impl.LeastForm(s, c.code)
		checkCode(t, "LeastForm", form, err, c.least)
		if count, err := impl.CountKeeping(s, c.code); count != c.keeping || err != impl.ErrNone {
			t.Errorf("CountKeeping(%v, %v) = %d, %d", c.sizes, c.code, count, err)
		}
		checkAlike(t, s, c.code, c.least, true)
		if len(c.code) > 1 {
			checkAlike(t, s, c.code, c.least[1:], false)
		}
	}
}

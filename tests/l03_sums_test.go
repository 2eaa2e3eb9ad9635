package tests

import (
	"slices"
	"testing"

	"loop.example/g01411/impl"
)

// permutations are all orders of the numbers 0 to n - 1.
func permutations(n int) [][]int64 {
	if n == 0 {
		return [][]int64{{}}
	}
	longer := [][]int64{}
	for _, p := range permutations(n - 1) {
		for k := range n {
			longer = append(longer, slices.Insert(slices.Clone(p), k, int64(n-1)))
		}
	}
	return longer
}

// turned is the order that goes back.
func turned(p []int64) []int64 {
	back := make([]int64, len(p))
	for i, k := range p {
		back[k] = int64(i)
	}
	return back
}

// moved is a list in the order p: what has been at i is at p(i).
func moved(list []int64, p []int64) []int64 {
	there := make([]int64, len(list))
	for i, k := range p {
		there[k] = list[i]
	}
	return there
}

// without is a list without its element i.
func without(list []int64, i int) []int64 {
	return slices.Delete(slices.Clone(list), i, i+1)
}

// digitsOfCode are the digits of all words of a code.
func digitsOfCode(s impl.Space, code []int64) [][]int64 {
	all, lists := digitLists(s.Sizes), [][]int64{}
	for _, w := range code {
		lists = append(lists, all[w])
	}
	return lists
}

// codeByHand finds the words of a space whose digits are among the lists.
func codeByHand(sizes []int64, lists [][]int64) []int64 {
	code := []int64{}
	for w, digits := range digitLists(sizes) {
		if slices.ContainsFunc(lists, func(list []int64) bool { return slices.Equal(list, digits) }) {
			code = append(code, int64(w))
		}
	}
	return code
}

// checkBuilt holds a space and a code against what they should be.
func checkBuilt(t *testing.T, name string, x impl.Space, code []int64, err int64, sizes []int64, want []int64) {
	t.Helper()
	if !slices.Equal(x.Sizes, sizes) || !slices.Equal(code, want) || err != impl.ErrNone {
		t.Errorf("%s = %v, %v, %d instead of %v, %v", name, x, code, err, sizes, want)
	}
}

// checkCode holds a code against what it should be.
func checkCode(t *testing.T, name string, code []int64, err int64, want []int64) {
	t.Helper()
	if !slices.Equal(code, want) || err != impl.ErrNone {
		t.Errorf("%s = %v, %d instead of %v", name, code, err, want)
	}
}

// sumSpaces are the spaces of the tests of this chapter: small ones, places of different sizes,
// MaxPlaces places, MaxWords words.
func sumSpaces(t *testing.T) []impl.Space {
	return append(smallSpaces(t),
		space(t, 2, 2, 2, 2, 2, 2, 2, 2), space(t, 4, 4, 4, 4, 4), space(t, 4, 2, 2, 2, 2, 2, 2, 4),
	)
}

// sumCodes are all codes of a space of up to 9 words, and of a greater one some.
func sumCodes(s impl.Space) [][]int64 {
	if n, _ := impl.CountWords(s); n <= 9 {
		return allCodes(n)
	}
	return someCodes(s)
}

// directSumByHand puts the digits of the words of two codes together.
func directSumByHand(s impl.Space, code []int64, x impl.Space, other []int64) ([]int64, []int64) {
	sizes, lists := slices.Concat(s.Sizes, x.Sizes), [][]int64{}
	for _, first := range digitsOfCode(s, code) {
		for _, second := range digitsOfCode(x, other) {
			lists = append(lists, slices.Concat(first, second))
		}
	}
	return sizes, codeByHand(sizes, lists)
}

// Direct sums have products of numbers of words, and the radii of both codes together.
func TestDirectSums(t *testing.T) {
	spaces := []impl.Space{space(t, 2), space(t, 4), space(t, 2, 3), space(t, 3, 2, 2), space(t, 2, 2, 2, 2)}
	for _, s := range spaces {
		for _, x := range spaces {
			for _, code := range someCodes(s) {
				for _, other := range someCodes(x) {
					checkDirectSum(t, s, code, x, other)
				}
			}
		}
	}
}

func checkDirectSum(t *testing.T, s impl.Space, code []int64, x impl.Space, other []int64) {
	t.Helper()
	sizes, want := directSumByHand(s, code, x, other)
	sum, words, err := impl.DirectSum(s, code, x, other)
	checkBuilt(t, "DirectSum", sum, words, err, sizes, want)
	if len(words) != len(code)*len(other) {
		t.Errorf("%v of %v and %v of %v: %d words", code, s, other, x, len(words))
	}
	if len(words) > 0 {
		checkRadiusOfSum(t, s, code, x, other)
	}
}

func checkRadiusOfSum(t *testing.T, s impl.Space, code []int64, x impl.Space, other []int64) {
	t.Helper()
	sum, words, _ := impl.DirectSum(s, code, x, other)
	first, a := impl.RadiusOf(s, code)
	second, b := impl.RadiusOf(x, other)
	both, c := impl.RadiusOf(sum, words)
	if both != first+second || a != impl.ErrNone || b != impl.ErrNone || c != impl.ErrNone {
		t.Errorf("%v of %v and %v of %v: radius %d instead of %d and %d", code, s, other, x, both, first, second)
	}
}

func TestDirectSumsAtTheLimits(t *testing.T) {
	for _, c := range [][2]impl.Space{
		{space(t, 2, 2, 2, 2, 2, 2, 2), space(t, 2)}, {space(t, 2), space(t, 2, 2, 2, 2, 2, 2, 2)},
		{space(t, 4, 4, 4, 4), space(t, 4)}, {space(t, 4, 4), space(t, 4, 4, 4)},
		{space(t, 4, 2, 2, 2), space(t, 2, 2, 2, 4)}, {space(t, 2, 2, 2, 2), space(t, 3, 2, 3, 2)},
	} {
		n, _ := impl.CountWords(c[0])
		m, _ := impl.CountWords(c[1])
		for _, code := range [][]int64{nil, {0}, {n - 1}, {0, n - 1}, upTo(n)} {
			for _, other := range [][]int64{nil, {0}, {m - 1}, {0, 1}, upTo(m)} {
				sum, words, err := impl.DirectSum(c[0], code, c[1], other)
				want := []int64{}
				for _, u := range code {
					for _, w := range other {
						want = append(want, u*m+w)
					}
				}
				checkBuilt(t, "DirectSum", sum, words, err, slices.Concat(c[0].Sizes, c[1].Sizes), want)
				if len(words) > 0 {
					checkRadiusOfSum(t, c[0], code, c[1], other)
				}
			}
		}
	}
}

// Words kept for each of the signs are together those with the place taken out.
func TestPlacesTakenOutAndSignsKept(t *testing.T) {
	for _, s := range sumSpaces(t) {
		for _, code := range sumCodes(s) {
			for i := 0; i < len(s.Sizes) && len(s.Sizes) > 1; i++ {
				checkTakenOut(t, s, code, i)
			}
		}
	}
}

func checkTakenOut(t *testing.T, s impl.Space, code []int64, i int) {
	t.Helper()
	sizes, all := without(s.Sizes, i), [][]int64{}
	x, left, err := impl.TakeOutPlace(s, code, int64(i))
	together, count := []int64{}, 0
	for d := range s.Sizes[i] {
		kept := [][]int64{}
		for _, digits := range digitsOfCode(s, code) {
			if digits[i] == d {
				kept = append(kept, without(digits, i))
			}
		}
		y, words, state := impl.KeepSign(s, code, int64(i), d)
		checkBuilt(t, "KeepSign", y, words, state, sizes, codeByHand(sizes, kept))
		all, count = append(all, kept...), count+len(words)
		together, _ = impl.CodesTogether(x, together, words)
	}
	checkBuilt(t, "TakeOutPlace", x, left, err, sizes, codeByHand(sizes, all))
	if !slices.Equal(together, left) || count != len(code) {
		t.Errorf("%v of %v: kept for the signs of the place %d are %d words, %v", code, s, i, count, together)
	}
}

// A place put in by a sum is taken out again, and the other places tell what it has.
func TestSumPlaces(t *testing.T) {
	spaces := append(smallSpaces(t), space(t, 2, 2, 2, 2, 2, 2, 2), space(t, 4, 4, 4, 4), space(t, 4, 4, 4, 2, 2))
	for _, s := range spaces {
		n, _ := impl.CountWords(s)
		for q := int64(2); q <= 4 && n*q <= impl.MaxWords; q++ {
			for _, code := range sumCodes(s) {
				checkSumPlace(t, s, code, q)
			}
		}
	}
}

func checkSumPlace(t *testing.T, s impl.Space, code []int64, q int64) {
	t.Helper()
	lists := digitsOfCode(s, code)
	for k, digits := range lists {
		rest := int64(0)
		for _, d := range digits {
			rest = (rest + d) % q
		}
		lists[k] = append(slices.Clone(digits), rest)
	}
	sizes := append(slices.Clone(s.Sizes), q)
	x, longer, err := impl.AddSumPlace(s, code, q)
	checkBuilt(t, "AddSumPlace", x, longer, err, sizes, codeByHand(sizes, lists))
	last := int64(len(s.Sizes))
	y, left, err := impl.TakeOutPlace(x, longer, last)
	checkBuilt(t, "TakeOutPlace of AddSumPlace", y, left, err, s.Sizes, code)
	if len(longer) != len(code) {
		t.Errorf("%v of %v with sums by %d: %v", code, s, q, longer)
	}
}

// An order and the one that goes back give the same space and code.
func TestOrdersOfPlacesGoBack(t *testing.T) {
	for _, s := range smallSpaces(t) {
		for _, p := range permutations(len(s.Sizes)) {
			for _, code := range sumCodes(s) {
				checkOrder(t, s, code, p)
			}
		}
	}
	for _, s := range []impl.Space{space(t, 4, 2, 2, 2, 2, 2, 2, 4), space(t, 3, 2, 3, 2, 3, 2, 2, 2), space(t, 2, 2, 2, 2, 2, 2, 2, 2)} {
		for _, p := range [][]int64{upTo(8), {7, 6, 5, 4, 3, 2, 1, 0}, {1, 2, 3, 4, 5, 6, 7, 0}, {3, 0, 7, 1, 6, 2, 4, 5}} {
			for _, code := range someCodes(s) {
				checkOrder(t, s, code, p)
			}
		}
	}
}

func checkOrder(t *testing.T, s impl.Space, code []int64, p []int64) {
	t.Helper()
	lists := digitsOfCode(s, code)
	for k, digits := range lists {
		lists[k] = moved(digits, p)
	}
	sizes := moved(s.Sizes, p)
	x, words, err := impl.OrderPlaces(s, code, p)
	checkBuilt(t, "OrderPlaces", x, words, err, sizes, codeByHand(sizes, lists))
	y, again, err := impl.OrderPlaces(x, words, turned(p))
	checkBuilt(t, "OrderPlaces back", y, again, err, s.Sizes, code)
	before, _ := impl.DistanceCounts(s, code)
	if after, _ := impl.DistanceCounts(x, words); !slices.Equal(before, after) {
		t.Errorf("%v of %v in the order %v: distances %v instead of %v", code, s, p, after, before)
	}
}

func TestOrdersOfSignsGoBack(t *testing.T) {
	for _, s := range sumSpaces(t) {
		codes := sumCodes(s)
		for i, q := range s.Sizes {
			if len(s.Sizes) > 4 && i%3 > 0 {
				continue
			}
			for _, p := range permutations(int(q)) {
				for _, code := range codes {
					checkSigns(t, s, code, i, p)
				}
			}
		}
	}
}

func checkSigns(t *testing.T, s impl.Space, code []int64, i int, p []int64) {
	t.Helper()
	lists, want := digitLists(s.Sizes), []int64{}
	for w := range lists {
		digits := slices.Clone(lists[w])
		digits[i] = turned(p)[digits[i]]
		from, _ := impl.WordOf(s, digits)
		if slices.Contains(code, from) {
			want = append(want, int64(w))
		}
	}
	words, err := impl.OrderSigns(s, code, int64(i), p)
	checkCode(t, "OrderSigns", words, err, want)
	again, err := impl.OrderSigns(s, words, int64(i), turned(p))
	checkCode(t, "OrderSigns back", again, err, code)
}

func TestCodesTogetherAndInCommon(t *testing.T) {
	for _, s := range sumSpaces(t) {
		n, _ := impl.CountWords(s)
		codes := someCodes(s)
		if n <= 4 {
			codes = allCodes(n)
		}
		for _, code := range codes {
			for _, other := range codes {
				either, both := []int64{}, []int64{}
				for w := range n {
					first, second := slices.Contains(code, w), slices.Contains(other, w)
					if first || second {
						either = append(either, w)
					}
					if first && second {
						both = append(both, w)
					}
				}
				words, err := impl.CodesTogether(s, code, other)
				checkCode(t, "CodesTogether", words, err, either)
				words, err = impl.CodesInCommon(s, code, other)
				checkCode(t, "CodesInCommon", words, err, both)
			}
		}
	}
}

// sumCase is what chapter 3 makes of a code, written out.
type sumCase struct {
	sizes, code []int64
	place       int64
	left        []int64
	sign        int64
	kept        []int64
	q           int64
	longer      []int64
}

func TestSumsWrittenOut(t *testing.T) {
	for _, c := range []sumCase{
		// 01, 11 and 12 of the sizes 2 and 3: without the first place 1 and 2, without the second 0 and 1.
		{[]int64{2, 3}, []int64{1, 4, 5}, 0, []int64{1, 2}, 1, []int64{1, 2}, 2, []int64{3, 8, 11}},
		{[]int64{2, 3}, []int64{1, 4, 5}, 1, []int64{0, 1}, 1, []int64{0, 1}, 3, []int64{4, 14, 15}},
		{[]int64{2, 3}, []int64{1, 4, 5}, 1, []int64{0, 1}, 0, nil, 4, []int64{5, 18, 23}},
		// 000 and 111: the middle place out leaves 00 and 11.
		{[]int64{2, 2, 2}, []int64{0, 7}, 1, []int64{0, 3}, 1, []int64{3}, 2, []int64{0, 15}},
		{[]int64{2, 2, 2}, []int64{0, 7}, 1, []int64{0, 3}, 0, []int64{0}, 3, []int64{0, 21}},
		// 32 of the sizes 4 and 4: the sum 5 has the rests 1, 2 and 1.
		{[]int64{4, 4}, []int64{14}, 0, []int64{2}, 3, []int64{2}, 2, []int64{29}},
		{[]int64{4, 4}, []int64{14}, 0, []int64{2}, 0, nil, 3, []int64{44}},
		{[]int64{4, 4}, []int64{14}, 1, []int64{3}, 2, []int64{3}, 4, []int64{57}},
		{[]int64{4, 4}, nil, 1, nil, 2, nil, 4, nil},
		{[]int64{2, 2}, []int64{0, 1, 2, 3}, 0, []int64{0, 1}, 1, []int64{0, 1}, 2, []int64{0, 3, 5, 6}},
	} {
		s := space(t, c.sizes...)
		sizes := without(c.sizes, int(c.place))
		x, words, err := impl.TakeOutPlace(s, c.code, c.place)
		checkBuilt(t, "TakeOutPlace", x, words, err, sizes, c.left)
		x, words, err = impl.KeepSign(s, c.code, c.place, c.sign)
		checkBuilt(t, "KeepSign", x, words, err, sizes, c.kept)
		x, words, err = impl.AddSumPlace(s, c.code, c.q)
		checkBuilt(t, "AddSumPlace", x, words, err, append(slices.Clone(c.sizes), c.q), c.longer)
	}
}

func TestOrdersWrittenOut(t *testing.T) {
	// What the place 0 has, the size 2 and the digit 1, goes to 1; that of 1 to 2; that of 2 to 0.
	x, words, err := impl.OrderPlaces(space(t, 2, 3, 4), []int64{1*12 + 2*4 + 3}, []int64{1, 2, 0})
	checkBuilt(t, "OrderPlaces", x, words, err, []int64{4, 2, 3}, []int64{3*6 + 1*3 + 2})
	x, words, err = impl.OrderPlaces(space(t, 3), []int64{1, 2}, []int64{0})
	checkBuilt(t, "OrderPlaces", x, words, err, []int64{3}, []int64{1, 2})
	// 0 becomes 1, 1 becomes 2, and 2 becomes 0.
	code, err := impl.OrderSigns(space(t, 3), []int64{0, 1}, 0, []int64{1, 2, 0})
	checkCode(t, "OrderSigns", code, err, []int64{1, 2})
	code, err = impl.OrderSigns(space(t, 2, 4), []int64{0, 2, 7}, 1, []int64{3, 0, 1, 2})
	checkCode(t, "OrderSigns", code, err, []int64{1, 3, 6})
}

package tests

import (
	"slices"
	"testing"

	"loop.example/g01411/impl"
)

func built(x impl.Space, code []int64, err int64) answer {
	return answer{len(x.Sizes) == 0 && len(code) == 0, err}
}

// failSums expects an error of all functions of chapter 3, each with a code that is given it.
func failSums(t *testing.T, s impl.Space, code []int64, want int64) {
	t.Helper()
	other := space(t, 2)
	fails(t, "DirectSum", built(impl.DirectSum(s, code, other, nil)), want)
	fails(t, "DirectSum", built(impl.DirectSum(other, []int64{1}, s, code)), want)
	fails(t, "TakeOutPlace", built(impl.TakeOutPlace(s, code, 0)), want)
	fails(t, "KeepSign", built(impl.KeepSign(s, code, 0, 0)), want)
	fails(t, "AddSumPlace", built(impl.AddSumPlace(s, code, 2)), want)
	fails(t, "OrderPlaces", built(impl.OrderPlaces(s, code, upTo(int64(len(s.Sizes))))), want)
	fails(t, "OrderSigns", list(impl.OrderSigns(s, code, 0, []int64{0, 1})), want)
	fails(t, "CodesTogether", list(impl.CodesTogether(s, code, nil)), want)
	fails(t, "CodesTogether", list(impl.CodesTogether(s, nil, code)), want)
	fails(t, "CodesInCommon", list(impl.CodesInCommon(s, code, nil)), want)
	fails(t, "CodesInCommon", list(impl.CodesInCommon(s, nil, code)), want)
	fails(t, "LeastForm", list(impl.LeastForm(s, code)), want)
	fails(t, "AreAlike", yesOrNo(impl.AreAlike(s, code, nil)), want)
	fails(t, "AreAlike", yesOrNo(impl.AreAlike(s, nil, code)), want)
	fails(t, "CountKeeping", number(impl.CountKeeping(s, code)), want)
}

func TestSumsOfNoSpace(t *testing.T) {
	two := space(t, 2)
	for _, s := range noSpaces() {
		// Beside something that is no space, no other argument counts, also one that is wrong itself.
		for _, code := range [][]int64{nil, {0}, {0, 1}, {1, 0}, {-1}, {5000}, {0, 0}} {
			if len(code) == 0 {
				fails(t, "DirectSum", built(impl.DirectSum(s, code, s, code)), impl.ErrInvalid)
			}
			failSums(t, s, code, impl.ErrInvalid)
			fails(t, "DirectSum", built(impl.DirectSum(two, []int64{9}, s, code)), impl.ErrInvalid)
			fails(t, "DirectSum", built(impl.DirectSum(s, code, two, []int64{9})), impl.ErrInvalid)
		}
		for _, i := range append(noWords(2), 0, 1) {
			fails(t, "TakeOutPlace", built(impl.TakeOutPlace(s, nil, i)), impl.ErrInvalid)
			fails(t, "KeepSign", built(impl.KeepSign(s, nil, i, 0)), impl.ErrInvalid)
			fails(t, "KeepSign", built(impl.KeepSign(s, nil, 0, i)), impl.ErrInvalid)
			fails(t, "AddSumPlace", built(impl.AddSumPlace(s, nil, i)), impl.ErrInvalid)
			fails(t, "OrderPlaces", built(impl.OrderPlaces(s, nil, []int64{i})), impl.ErrInvalid)
			fails(t, "OrderSigns", list(impl.OrderSigns(s, nil, i, []int64{0, 1})), impl.ErrInvalid)
			fails(t, "OrderSigns", list(impl.OrderSigns(s, nil, 0, []int64{i})), impl.ErrInvalid)
		}
	}
}

func TestSumsOfNoCode(t *testing.T) {
	// A space of one place, and one of MaxPlaces places and MaxWords words, would give ErrState and
	// ErrLimit, but ErrRange comes before them.
	for _, s := range append(smallSpaces(t), largeSpaces(t)...) {
		n, _ := impl.CountWords(s)
		for _, code := range noCodes(n) {
			failSums(t, s, code, impl.ErrRange)
		}
	}
}

func TestNoPlace(t *testing.T) {
	for _, s := range append(smallSpaces(t), largeSpaces(t)...) {
		n := int64(len(s.Sizes))
		for _, i := range append(noWords(n), impl.MaxPlaces, 64) {
			fails(t, "TakeOutPlace", built(impl.TakeOutPlace(s, []int64{0}, i)), impl.ErrRange)
			fails(t, "KeepSign", built(impl.KeepSign(s, []int64{0}, i, 0)), impl.ErrRange)
			fails(t, "OrderSigns", list(impl.OrderSigns(s, []int64{0}, i, []int64{0, 1})), impl.ErrRange)
		}
	}
}

func TestNoSign(t *testing.T) {
	for _, s := range append(smallSpaces(t), largeSpaces(t)...) {
		for i, q := range s.Sizes {
			for _, d := range noWords(q) {
				fails(t, "KeepSign", built(impl.KeepSign(s, []int64{0}, int64(i), d)), impl.ErrRange)
			}
		}
	}
}

// noOrders are no orders of n numbers.
func noOrders(n int64) [][]int64 {
	lists := [][]int64{nil, {-1}, upTo(n + 1), upTo(n + 1)[1:], upTo(n)[1:], make([]int64, 9), upTo(9), upTo(100)}
	for k := range n {
		for _, x := range append(noWords(n), impl.MaxPlaces) {
			list := upTo(n)
			list[k] = x
			lists = append(lists, list)
		}
		list := upTo(n)
		list[k] = list[(k+1)%n]
		if n > 1 {
			lists = append(lists, list)
		}
	}
	// The numbers to which longer orders go on are no part of a shorter one.
	if n < impl.MaxPlaces {
		lists = append(lists, upTo(impl.MaxPlaces))
	}
	return lists
}

func TestNoOrder(t *testing.T) {
	for _, s := range append(smallSpaces(t), largeSpaces(t)...) {
		for _, p := range noOrders(int64(len(s.Sizes))) {
			fails(t, "OrderPlaces", built(impl.OrderPlaces(s, []int64{0, 1}, p)), impl.ErrRange)
			fails(t, "OrderPlaces", built(impl.OrderPlaces(s, nil, p)), impl.ErrRange)
		}
		for i, q := range s.Sizes {
			for _, p := range noOrders(q) {
				fails(t, "OrderSigns", list(impl.OrderSigns(s, []int64{0, 1}, int64(i), p)), impl.ErrRange)
				fails(t, "OrderSigns", list(impl.OrderSigns(s, nil, int64(i), p)), impl.ErrRange)
			}
		}
	}
}

func TestOnePlaceAlone(t *testing.T) {
	for _, s := range []impl.Space{space(t, 2), space(t, 3), space(t, 4)} {
		for _, code := range [][]int64{nil, {0}, {1}, {0, 1}, upTo(s.Sizes[0])} {
			fails(t, "TakeOutPlace", built(impl.TakeOutPlace(s, code, 0)), impl.ErrState)
			for d := range s.Sizes[0] {
				fails(t, "KeepSign", built(impl.KeepSign(s, code, 0, d)), impl.ErrState)
			}
			fails(t, "TakeOutPlace", built(impl.TakeOutPlace(s, code, 1)), impl.ErrRange)
			fails(t, "KeepSign", built(impl.KeepSign(s, code, 1, 0)), impl.ErrRange)
			fails(t, "KeepSign", built(impl.KeepSign(s, code, 0, s.Sizes[0])), impl.ErrRange)
			fails(t, "KeepSign", built(impl.KeepSign(s, code, 0, -1)), impl.ErrRange)
		}
	}
}

func TestSumsBeyondTheLimits(t *testing.T) {
	for _, c := range [][2]impl.Space{
		// One place too many, but not too many words.
		{space(t, 2, 2, 2, 2, 2, 2, 2, 2), space(t, 2)}, {space(t, 2, 2, 2, 2, 2), space(t, 2, 2, 2, 2)},
		{space(t, 2), space(t, 2, 2, 2, 2, 2, 2, 2, 2)},
		// Too many words, but not too many places.
		{space(t, 4, 4, 4, 4, 4), space(t, 2)}, {space(t, 2, 3, 2), space(t, 4, 4, 3, 2)}, {space(t, 4), space(t, 4, 4, 4, 2, 3)},
		{space(t, 4, 4, 4, 4, 4), space(t, 4, 4, 4, 4, 4)},
	} {
		n, _ := impl.CountWords(c[0])
		m, _ := impl.CountWords(c[1])
		for _, code := range [][]int64{nil, {0}, upTo(n)} {
			for _, other := range [][]int64{nil, {m - 1}, upTo(m)} {
				fails(t, "DirectSum", built(impl.DirectSum(c[0], code, c[1], other)), impl.ErrLimit)
			}
			fails(t, "DirectSum", built(impl.DirectSum(c[0], code, c[1], []int64{m})), impl.ErrRange)
		}
		fails(t, "DirectSum", built(impl.DirectSum(c[0], []int64{n}, c[1], nil)), impl.ErrRange)
	}
}

func TestSumPlacesBeyondTheLimits(t *testing.T) {
	for _, c := range []struct {
		space impl.Space
		least int64
	}{
		{space(t, 2, 2, 2, 2, 2, 2, 2, 2), 2}, {space(t, 4, 4, 4, 4, 4), 2}, {space(t, 4, 4, 4, 4, 2), 3}, {space(t, 4, 4, 4, 4), 5},
		{space(t, 3, 3, 3, 3, 4), 4}, {space(t, 2, 2, 2, 2, 2, 2, 2), 5},
	} {
		n, _ := impl.CountWords(c.space)
		for _, code := range [][]int64{nil, {0, 1}, upTo(n)} {
			for q := int64(2); q <= 4; q++ {
				x, longer, err := impl.AddSumPlace(c.space, code, q)
				if q >= c.least {
					fails(t, "AddSumPlace", built(x, longer, err), impl.ErrLimit)
				} else if len(longer) != len(code) || len(x.Sizes) != len(c.space.Sizes)+1 || err != impl.ErrNone {
					t.Errorf("AddSumPlace(%v, %v, %d) = %v, %v, %d", c.space, code, q, x, longer, err)
				}
			}
			for _, q := range append(noWords(5), 0, 1) {
				fails(t, "AddSumPlace", built(impl.AddSumPlace(c.space, code, q)), impl.ErrRange)
			}
		}
		fails(t, "AddSumPlace", built(impl.AddSumPlace(c.space, []int64{n}, 2)), impl.ErrRange)
	}
}

func TestFormsBeyondTheLimit(t *testing.T) {
	if impl.MaxFormWords != 81 {
		t.Errorf("MaxFormWords = %d", impl.MaxFormWords)
	}
	// No product of sizes is 82: the next one is 96.
	beyond := []impl.Space{space(t, 2, 2, 2, 2, 2, 3), space(t, 4, 4, 2, 3), space(t, 2, 2, 2, 2, 2, 2, 2), space(t, 3, 3, 3, 4)}
	for _, s := range append(beyond, largeSpaces(t)...) {
		n, _ := impl.CountWords(s)
		for _, code := range [][]int64{nil, {0}, {n - 1}, upTo(n)} {
			fails(t, "LeastForm", list(impl.LeastForm(s, code)), impl.ErrLimit)
			fails(t, "AreAlike", yesOrNo(impl.AreAlike(s, code, code)), impl.ErrLimit)
			fails(t, "AreAlike", yesOrNo(impl.AreAlike(s, code, []int64{n})), impl.ErrRange)
			fails(t, "AreAlike", yesOrNo(impl.AreAlike(s, []int64{1, 0}, code)), impl.ErrRange)
			fails(t, "CountKeeping", number(impl.CountKeeping(s, code)), impl.ErrLimit)
		}
	}
}

func TestSumsOfCodesWithoutWords(t *testing.T) {
	s := space(t, 2, 3, 2)
	for _, code := range [][]int64{nil, {}} {
		x, words, err := impl.DirectSum(s, code, space(t, 2), []int64{0, 1})
		checkBuilt(t, "DirectSum", x, words, err, []int64{2, 3, 2, 2}, nil)
		x, words, err = impl.DirectSum(space(t, 2), []int64{0, 1}, s, code)
		checkBuilt(t, "DirectSum", x, words, err, []int64{2, 2, 3, 2}, nil)
		x, words, err = impl.TakeOutPlace(s, code, 1)
		checkBuilt(t, "TakeOutPlace", x, words, err, []int64{2, 2}, nil)
		x, words, err = impl.KeepSign(s, code, 1, 2)
		checkBuilt(t, "KeepSign", x, words, err, []int64{2, 2}, nil)
		x, words, err = impl.AddSumPlace(s, code, 4)
		checkBuilt(t, "AddSumPlace", x, words, err, []int64{2, 3, 2, 4}, nil)
		x, words, err = impl.OrderPlaces(s, code, []int64{1, 0, 2})
		checkBuilt(t, "OrderPlaces", x, words, err, []int64{3, 2, 2}, nil)
		words, err = impl.OrderSigns(s, code, 1, []int64{2, 1, 0})
		checkCode(t, "OrderSigns", words, err, nil)
		words, err = impl.LeastForm(s, code)
		checkCode(t, "LeastForm", words, err, nil)
		checkAlike(t, s, code, nil, true)
		checkAlike(t, s, code, []int64{0}, false)
	}
}

func TestSumsLeaveArgumentsAsTheyAre(t *testing.T) {
	sizes, words, others, orders := []int64{3, 2, 3}, []int64{1, 5, 9, 17}, []int64{0, 5, 16}, []int64{2, 0, 1}
	s := impl.Space{Sizes: withSpare(sizes)}
	code, other, p := withSpare(words), withSpare(others), withSpare(orders)
	impl.DirectSum(s, code, s, other)
	impl.TakeOutPlace(s, code, 0)
	impl.KeepSign(s, code, 0, 0)
	impl.AddSumPlace(s, code, 3)
	impl.OrderPlaces(s, code, p)
	impl.OrderSigns(s, code, 0, p)
	impl.CodesTogether(s, code, other)
	impl.CodesInCommon(s, code, other)
	impl.LeastForm(s, code)
	impl.AreAlike(s, code, other)
	impl.CountKeeping(s, code)
	if !isUntouched(s.Sizes, sizes) || !isUntouched(code, words) || !isUntouched(other, others) || !isUntouched(p, orders) {
		t.Errorf("arguments are changed: %v, %v, %v, %v", s, code, other, p)
	}
}

// fill writes into a list and into its spare capacity.
func fill(list []int64) {
	whole := list[:cap(list)]
	for k := range whole {
		whole[k] = -5
	}
}

func TestSumsAreNewMemory(t *testing.T) {
	s, x, code, other := space(t, 3, 2, 3), space(t, 2, 2), []int64{0, 5, 9, 17}, []int64{0, 3}
	places, signs := upTo(3), upTo(3)
	calls := map[string]func() (impl.Space, []int64){
		"DirectSum":    func() (impl.Space, []int64) { y, c, _ := impl.DirectSum(s, code, x, other); return y, c },
		"TakeOutPlace": func() (impl.Space, []int64) { y, c, _ := impl.TakeOutPlace(s, code, 2); return y, c },
		"KeepSign":     func() (impl.Space, []int64) { y, c, _ := impl.KeepSign(s, code, 2, 2); return y, c },
		"AddSumPlace":  func() (impl.Space, []int64) { y, c, _ := impl.AddSumPlace(s, code, 2); return y, c },
		"OrderPlaces":  func() (impl.Space, []int64) { y, c, _ := impl.OrderPlaces(s, code, places); return y, c },
		"OrderSigns":   func() (impl.Space, []int64) { c, _ := impl.OrderSigns(s, code, 0, signs); return impl.Space{}, c },
		"CodesTogether": func() (impl.Space, []int64) {
			c, _ := impl.CodesTogether(s, code, code)
			return impl.Space{}, c
		},
		"CodesInCommon": func() (impl.Space, []int64) {
			c, _ := impl.CodesInCommon(s, code, code)
			return impl.Space{}, c
		},
		"LeastForm": func() (impl.Space, []int64) { c, _ := impl.LeastForm(s, code); return impl.Space{}, c },
	}
	for name, call := range calls {
		checkNewMemory(t, name, func() []int64 {
			y, c := call()
			fill(y.Sizes)
			return c
		})
		y, c := call()
		sizes := slices.Clone(y.Sizes)
		fill(c)
		if !slices.Equal(y.Sizes, sizes) {
			t.Errorf("%s: the sizes share memory with the code", name)
		}
		if !slices.Equal(s.Sizes, []int64{3, 2, 3}) || !slices.Equal(x.Sizes, []int64{2, 2}) ||
			!slices.Equal(code, []int64{0, 5, 9, 17}) || !slices.Equal(other, []int64{0, 3}) ||
			!slices.Equal(places, upTo(3)) || !slices.Equal(signs, upTo(3)) {
			t.Errorf("%s gives out its arguments", name)
		}
	}
}

package tests

import (
	"math"
	"slices"
	"testing"

	"loop.example/g01411/impl"
)

// failNorms expects an error of all functions of chapter 9, each with a code that is given it.
func failNorms(t *testing.T, s impl.Space, code []int64, want int64) {
	t.Helper()
	fails(t, "ReachesOf", list(impl.ReachesOf(s, code, 0, 0)), want)
	fails(t, "NormAt", number(impl.NormAt(s, code, 0)), want)
	fails(t, "FitPlaces", list(impl.FitPlaces(s, code)), want)
	fails(t, "IsNormal", yesOrNo(impl.IsNormal(s, code)), want)
	// Not all sizes here are the same, but ErrRange comes before ErrState.
	for _, q := range []int64{2, 3, 4} {
		other := space(t, q, 2)
		fails(t, "JoinOverPlace", built(impl.JoinOverPlace(s, code, other, []int64{1})), want)
		fails(t, "JoinOverPlace", built(impl.JoinOverPlace(other, nil, s, code)), want)
	}
	for _, list := range [][][]int64{{code}, {code, code}, {nil, code}, {{1}, {0}, code}, {code, {0}}} {
		fails(t, "IsChain", yesOrNo(impl.IsChain(s, list)), want)
	}
	failSet(t, s, code, nil, want)
	failSet(t, s, code, []int64{1}, want)
	failSet(t, s, code, make([]int64, impl.MaxColumn), want)
}

// failSet expects an error of the functions that take a set with columns.
func failSet(t *testing.T, x impl.Space, set []int64, columns []int64, want int64) {
	t.Helper()
	fails(t, "CodeByColumns", built(impl.CodeByColumns(x, set, columns)), want)
	for _, m := range []int64{0, 1, impl.MaxColumn} {
		fails(t, "WordsReached", list(impl.WordsReached(x, set, columns, m)), want)
	}
}

// failColumns expects an error of all functions that take columns.
func failColumns(t *testing.T, x impl.Space, columns []int64, want int64) {
	t.Helper()
	fails(t, "AreLed", yesOrNo(impl.AreLed(x, columns)), want)
	for _, set := range [][]int64{nil, {0}, {0, 1}} {
		failSet(t, x, set, columns, want)
	}
}

// failAt expects an error of all functions that take a place or a word.
func failAt(t *testing.T, s impl.Space, code []int64, i int64, w int64, want int64) {
	t.Helper()
	fails(t, "ReachesOf", list(impl.ReachesOf(s, code, i, w)), want)
	if w == 0 {
		fails(t, "NormAt", number(impl.NormAt(s, code, i)), want)
	}
}

// noSteps are numbers beyond 0 to MaxColumn.
func noSteps() []int64 {
	return []int64{-1, impl.MaxColumn + 1, 64, 1 << 32, math.MinInt64, math.MaxInt64}
}

func TestNormsOfNoSpace(t *testing.T) {
	// Beside something that is no space, no other argument counts, also one that is wrong itself.
	two, lists := space(t, 2), [][]int64{nil, {0}, {0, 1}, {1, 0}, {-1}, {5000}, {0, 0}, make([]int64, impl.MaxColumn+1), upTo(3000)}
	for _, s := range noSpaces() {
		for _, code := range lists {
			failNorms(t, s, code, impl.ErrInvalid)
			failColumns(t, s, code, impl.ErrInvalid)
			fails(t, "JoinOverPlace", built(impl.JoinOverPlace(s, code, s, code)), impl.ErrInvalid)
			fails(t, "JoinOverPlace", built(impl.JoinOverPlace(two, []int64{9}, s, code)), impl.ErrInvalid)
			fails(t, "JoinOverPlace", built(impl.JoinOverPlace(s, code, two, []int64{9})), impl.ErrInvalid)
			for _, m := range noSteps() {
				fails(t, "WordsReached", list(impl.WordsReached(s, code, code, m)), impl.ErrInvalid)
			}
			for _, x := range append(noWords(2), 0, 1) {
				failAt(t, s, code, x, 0, impl.ErrInvalid)
				failAt(t, s, code, 0, x, impl.ErrInvalid)
				failAt(t, s, code, x, x, impl.ErrInvalid)
			}
		}
		for _, chain := range [][][]int64{nil, {}, {nil}, {{9}}, {{1, 0}, {0}}, make([][]int64, 10), make([][]int64, 11)} {
			fails(t, "IsChain", yesOrNo(impl.IsChain(s, chain)), impl.ErrInvalid)
		}
	}
}

func TestNormsOfNoCode(t *testing.T) {
	// Few of these spaces are plain, but ErrRange comes before ErrState.
	for _, s := range linearSpaces(t) {
		n, _ := impl.CountWords(s)
		for _, code := range noCodes(n) {
			failNorms(t, s, code, impl.ErrRange)
		}
	}
}

func TestNormsAtNoPlace(t *testing.T) {
	for _, s := range append(smallSpaces(t), largeSpaces(t)...) {
		words, _ := impl.CountWords(s)
		places := int64(len(s.Sizes))
		for _, code := range [][]int64{nil, {0}, upTo(words)} {
			for _, i := range append(noWords(places), 64, impl.MaxPlaces) {
				failAt(t, s, code, i, 0, impl.ErrRange)
				failAt(t, s, code, i, words-1, impl.ErrRange)
				failAt(t, s, code, i, words, impl.ErrRange)
			}
			for _, w := range noWords(words) {
				failAt(t, s, code, 0, w, impl.ErrRange)
				failAt(t, s, code, places-1, w, impl.ErrRange)
			}
		}
	}
}

func TestFitPlacesOfCodesWithoutWords(t *testing.T) {
	for _, s := range append(smallSpaces(t), largeSpaces(t)...) {
		for _, code := range [][]int64{nil, {}} {
			fails(t, "FitPlaces", list(impl.FitPlaces(s, code)), impl.ErrState)
			fails(t, "IsNormal", yesOrNo(impl.IsNormal(s, code)), impl.ErrState)
		}
	}
}

func TestJoinedOverPlacesOfOtherSizes(t *testing.T) {
	spaces := append(smallSpaces(t), largeSpaces(t)...)
	for _, s := range spaces {
		for _, x := range spaces {
			if s.Sizes[len(s.Sizes)-1] == x.Sizes[0] {
				continue
			}
			// Many of the spaces would be too large, but ErrState comes before ErrLimit.
			for _, code := range [][]int64{nil, {0}, {0, 1}} {
				fails(t, "JoinOverPlace", built(impl.JoinOverPlace(s, code, x, code)), impl.ErrState)
				for _, other := range [][]int64{{-1}, {1, 0}, {0, 0}, {1024}} {
					fails(t, "JoinOverPlace", built(impl.JoinOverPlace(s, code, x, other)), impl.ErrRange)
					fails(t, "JoinOverPlace", built(impl.JoinOverPlace(s, other, x, code)), impl.ErrRange)
				}
			}
		}
	}
}

func TestNoChain(t *testing.T) {
	for _, s := range append(smallSpaces(t), largeSpaces(t)...) {
		n, _ := impl.CountWords(s)
		for _, length := range []int{11, 12, 100} {
			fails(t, "IsChain", yesOrNo(impl.IsChain(s, make([][]int64, length))), impl.ErrRange)
			fails(t, "IsChain", yesOrNo(impl.IsChain(s, slices.Repeat([][]int64{upTo(n)}, length))), impl.ErrRange)
			fails(t, "IsChain", yesOrNo(impl.IsChain(s, slices.Repeat([][]int64{{-1}}, length))), impl.ErrRange)
		}
		// A list that is no chain, because of its first two codes, has something that is no code behind.
		for _, code := range noCodes(n) {
			for k := range 10 {
				chain := slices.Repeat([][]int64{{0, 1}, {1}}, 5)
				chain[k] = code
				fails(t, "IsChain", yesOrNo(impl.IsChain(s, chain)), impl.ErrRange)
				fails(t, "IsChain", yesOrNo(impl.IsChain(s, chain[:k+1])), impl.ErrRange)
			}
		}
	}
}

func TestColumnsThatAreNoWords(t *testing.T) {
	for _, x := range linearSpaces(t) {
		n, _ := impl.CountWords(x)
		for _, w := range noWords(n) {
			for _, columns := range [][]int64{{w}, {0, w}, {w, 0}, {n - 1, w, 1}, append(make([]int64, impl.MaxColumn-1), w), append(make([]int64, 100), w)} {
				failColumns(t, x, columns, impl.ErrRange)
				fails(t, "WordsReached", list(impl.WordsReached(x, nil, columns, -1)), impl.ErrRange)
			}
		}
		for _, m := range noSteps() {
			for _, columns := range [][]int64{nil, {0}, {1, n - 1}, make([]int64, impl.MaxColumn), make([]int64, impl.MaxColumn+1)} {
				fails(t, "WordsReached", list(impl.WordsReached(x, nil, columns, m)), impl.ErrRange)
				fails(t, "WordsReached", list(impl.WordsReached(x, []int64{0, n - 1}, columns, m)), impl.ErrRange)
			}
		}
	}
}

func TestTooManyColumns(t *testing.T) {
	if impl.MaxColumn != 8 {
		t.Errorf("MaxColumn = %d", impl.MaxColumn)
	}
	for _, x := range columnSpaces(t) {
		n := int64(len(x.lists))
		led := append(x.leading(), x.moreColumns(2, 9)...)
		for _, columns := range [][]int64{led[:impl.MaxColumn+1], led, make([]int64, 9), slices.Repeat([]int64{n - 1}, 5000)} {
			failColumns(t, x.space, columns, impl.ErrRange)
		}
		// Just so many of them are not too many.
		reached, err := impl.WordsReached(x.space, []int64{0}, led[:impl.MaxColumn], impl.MaxColumn)
		checkCode(t, "WordsReached", reached, err, upTo(n))
		if yes, err := impl.AreLed(x.space, led[:impl.MaxColumn]); !yes || err != impl.ErrNone {
			t.Errorf("AreLed(%v, %v) = %v, %d", x.space, led[:impl.MaxColumn], yes, err)
		}
	}
	for _, x := range notPlainSpaces(t) {
		failColumns(t, x, make([]int64, 9), impl.ErrRange)
	}
}

func TestColumnsOfSpacesThatAreNotPlain(t *testing.T) {
	for _, x := range notPlainSpaces(t) {
		n, _ := impl.CountWords(x)
		for _, columns := range [][]int64{nil, {}, {0}, {1}, {n - 1, n - 1}, {2, 1}, make([]int64, impl.MaxColumn)} {
			failColumns(t, x, columns, impl.ErrState)
			failSet(t, x, upTo(n), columns, impl.ErrState)
		}
	}
}

// Columns that are not led are ErrState, also where they are so many that the space would be too large.
func TestCodesByColumnsThatAreNotLed(t *testing.T) {
	for _, x := range columnSpaces(t) {
		n := int64(len(x.lists))
		for _, columns := range x.columnLists() {
			if x.areLed(columns) {
				continue
			}
			for _, set := range x.fewSets() {
				fails(t, "CodeByColumns", built(impl.CodeByColumns(x.space, set, columns)), impl.ErrState)
			}
			fails(t, "CodeByColumns", built(impl.CodeByColumns(x.space, []int64{n}, columns)), impl.ErrRange)
		}
	}
}

// Of the size 3, more than 6 columns give too many words. Of the size 2, MaxColumn columns give MaxPlaces
// places, and so neither too many places nor too many words.
func TestCodesByColumnsBeyondTheLimits(t *testing.T) {
	refused := 0
	for _, x := range columnSpaces(t) {
		for count := int64(len(x.space.Sizes)); count <= impl.MaxColumn; count++ {
			columns := slices.Concat(x.leading(), x.moreColumns(3, count-int64(len(x.space.Sizes))))
			for _, set := range x.fewSets() {
				s, code, err := impl.CodeByColumns(x.space, set, columns)
				if power(x.size, count) > impl.MaxWords {
					refused++
					fails(t, "CodeByColumns", built(s, code, err), impl.ErrLimit)
				} else if int64(len(s.Sizes)) != count || err != impl.ErrNone {
					t.Errorf("CodeByColumns(%v, %v, %v) = %v, %v, %d", x.space, set, columns, s, code, err)
				}
			}
			fails(t, "CodeByColumns", built(impl.CodeByColumns(x.space, []int64{0, 0}, columns)), impl.ErrRange)
		}
	}
	if refused == 0 {
		t.Errorf("no columns give too many words")
	}
}

// No columns reach nothing but the set, and are not led.
func TestNoColumns(t *testing.T) {
	for _, x := range columnSpaces(t) {
		for _, columns := range [][]int64{nil, {}} {
			if yes, err := impl.AreLed(x.space, columns); yes || err != impl.ErrNone {
				t.Errorf("AreLed(%v, none) = %v, %d", x.space, yes, err)
			}
			for _, set := range x.fewSets() {
				for m := range int64(impl.MaxColumn + 1) {
					reached, err := impl.WordsReached(x.space, set, columns, m)
					checkCode(t, "WordsReached by no columns", reached, err, set)
				}
				fails(t, "CodeByColumns", built(impl.CodeByColumns(x.space, set, columns)), impl.ErrState)
			}
		}
	}
}

func TestNormsLeaveArgumentsAsTheyAre(t *testing.T) {
	sizes, words, others, leading := []int64{3, 3, 3}, []int64{0, 13, 26}, []int64{0, 2, 13, 26}, []int64{9, 3, 1, 26, 26}
	s := impl.Space{Sizes: withSpare(sizes)}
	code, other, columns := withSpare(words), withSpare(others), withSpare(leading)
	chain := [][]int64{code, other, nil}[:2]
	impl.ReachesOf(s, code, 1, 5)
	impl.NormAt(s, code, 1)
	impl.FitPlaces(s, code)
	impl.IsNormal(s, code)
	impl.JoinOverPlace(s, code, s, other)
	impl.IsChain(s, chain)
	impl.AreLed(s, columns)
	impl.CodeByColumns(s, code, columns)
	for m := range int64(impl.MaxColumn + 1) {
		impl.WordsReached(s, code, columns, m)
	}
	if !isUntouched(s.Sizes, sizes) || !isUntouched(code, words) || !isUntouched(other, others) || !isUntouched(columns, leading) {
		t.Errorf("arguments are changed: %v, %v, %v, %v", s, code, other, columns)
	}
	if !slices.Equal(chain[0], words) || !slices.Equal(chain[1], others) || chain[:3][2] != nil {
		t.Errorf("the list is changed: %v", chain[:3])
	}
}

func TestNormsAreNewMemory(t *testing.T) {
	s, one, code, columns := space(t, 3, 3), space(t, 3), []int64{0, 4, 8}, []int64{3, 1, 5}
	signs := upTo(3)
	calls := map[string]func() (impl.Space, []int64){
		"ReachesOf":              func() (impl.Space, []int64) { c, _ := impl.ReachesOf(s, code, 1, 5); return impl.Space{}, c },
		"FitPlaces":              func() (impl.Space, []int64) { c, _ := impl.FitPlaces(s, code); return impl.Space{}, c },
		"JoinOverPlace":          func() (impl.Space, []int64) { y, c, _ := impl.JoinOverPlace(s, code, s, code); return y, c },
		"JoinOverPlace the last": func() (impl.Space, []int64) { y, c, _ := impl.JoinOverPlace(s, code, one, signs); return y, c },
		"JoinOverPlace the only": func() (impl.Space, []int64) { y, c, _ := impl.JoinOverPlace(one, signs, s, code); return y, c },
		"WordsReached":           func() (impl.Space, []int64) { c, _ := impl.WordsReached(s, code, columns, 1); return impl.Space{}, c },
		"WordsReached within 0":  func() (impl.Space, []int64) { c, _ := impl.WordsReached(s, code, columns, 0); return impl.Space{}, c },
		"CodeByColumns":          func() (impl.Space, []int64) { y, c, _ := impl.CodeByColumns(s, code, columns); return y, c },
		"CodeByColumns that lead": func() (impl.Space, []int64) {
			y, c, _ := impl.CodeByColumns(s, code, columns[:2])
			return y, c
		},
	}
	for name, call := range calls {
		checkNewMemory(t, name, func() []int64 {
			y, c := call()
			fill(y.Sizes)
			fill(c[len(c):])
			return c
		})
		y, c := call()
		sizes := slices.Clone(y.Sizes)
		fill(c)
		if !slices.Equal(y.Sizes, sizes) {
			t.Errorf("%s: the sizes share memory with the code", name)
		}
		if !slices.Equal(s.Sizes, []int64{3, 3}) || !slices.Equal(one.Sizes, []int64{3}) || !slices.Equal(signs, upTo(3)) ||
			!slices.Equal(code, []int64{0, 4, 8}) || !slices.Equal(columns, []int64{3, 1, 5}) {
			t.Errorf("%s gives out its arguments", name)
		}
	}
}

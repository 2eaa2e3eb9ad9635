package tests

import (
	"slices"
	"testing"

	"loop.example/g01411/impl"
)

// columnSpaces are all plain spaces: of 1 to 8 places of the size 2, and of 1 to 6 of the size 3.
func columnSpaces(t *testing.T) []plainSpace {
	spaces := []plainSpace{}
	for _, size := range []int64{2, 3} {
		for places := 1; places <= impl.MaxPlaces && power(size, int64(places)) <= impl.MaxWords; places++ {
			spaces = append(spaces, newPlainSpace(t, size, places))
		}
	}
	return spaces
}

// leading are the columns with the digit 1 at one place, from the first place on.
func (x plainSpace) leading() []int64 {
	leading := x.powers()
	slices.Reverse(leading)
	return leading
}

// moreColumns are so many columns, of one kind or another: zeros, equal ones, and others.
func (x plainSpace) moreColumns(kind int64, count int64) []int64 {
	n := int64(len(x.lists))
	columns := []int64{}
	for k := range count {
		switch kind {
		case 0:
			columns = append(columns, 0)
		case 1:
			columns = append(columns, n-1)
		default:
			columns = append(columns, (k*k*kind+5*k+n/2+kind)%n)
		}
	}
	return columns
}

// columnLists are lists of columns, led ones and others, of none up to MaxColumn.
func (x plainSpace) columnLists() [][]int64 {
	lists := [][]int64{nil, {}, x.leading(), x.powers()}
	for count := range int64(impl.MaxColumn + 1) {
		for kind := range int64(4) {
			lists = append(lists, x.moreColumns(kind, count))
		}
		if more := count - int64(len(x.space.Sizes)); more > 0 {
			lists = append(lists, slices.Concat(x.leading(), x.moreColumns(2, more)))
		}
	}
	return lists
}

// fewSets are sets of no word, of one, of two, of all, and of some.
func (x plainSpace) fewSets() [][]int64 {
	n := int64(len(x.lists))
	return [][]int64{nil, {0}, {n - 1}, {0, n / 2}, {0, n - 1}, upTo(n), upTo(n)[n/2 : n/2+(n+3)/4]}
}

// fewest tries all choices of different columns with all their multiples, and has for each word the
// fewest multiples whose sum it is, or 99.
func (x plainSpace) fewest(columns []int64) []int64 {
	type choice struct{ sum, count int64 }
	choices := []choice{{}}
	for _, c := range columns {
		for _, found := range choices {
			for multiple := int64(1); multiple < x.size; multiple++ {
				found.sum = x.sums[found.sum][c]
				choices = append(choices, choice{found.sum, found.count + 1})
			}
		}
	}
	fewest := slices.Repeat([]int64{99}, len(x.lists))
	for _, found := range choices {
		fewest[found.sum] = min(fewest[found.sum], found.count)
	}
	return fewest
}

// reached are the words that are sums of a word of a set and of what is made of at most m multiples.
func (x plainSpace) reached(set []int64, fewest []int64, m int64) []int64 {
	isIn := make([]int64, len(x.lists))
	for sum, count := range fewest {
		if count <= m {
			for _, u := range set {
				isIn[x.sums[u][sum]] = 1
			}
		}
	}
	return wordsWith(isIn, 1)
}

// Words reached are held against all choices of columns and multiples.
func TestWordsReached(t *testing.T) {
	for _, x := range columnSpaces(t) {
		for _, columns := range x.columnLists() {
			fewest := x.fewest(columns)
			for _, set := range x.fewSets() {
				for _, m := range []int64{0, 1, 2, 3, impl.MaxColumn} {
					words, err := impl.WordsReached(x.space, set, columns, m)
					if want := x.reached(set, fewest, m); !slices.Equal(words, want) || err != impl.ErrNone {
						t.Errorf("WordsReached(%v, %v, %v, %d) = %v, %d instead of %v", x.space, set, columns, m, words, err, want)
					}
				}
			}
		}
	}
}

// All sets and all lists of up to three columns of the spaces of up to four words.
func TestWordsReachedOfFewWords(t *testing.T) {
	for _, x := range columnSpaces(t) {
		n := int64(len(x.lists))
		if n > 4 {
			continue
		}
		for _, columns := range listsUpTo(n, 3) {
			fewest := x.fewest(columns)
			for _, set := range allCodes(n) {
				for m := range int64(5) {
					words, err := impl.WordsReached(x.space, set, columns, m)
					checkCode(t, "WordsReached", words, err, x.reached(set, fewest, m))
				}
			}
		}
	}
}

// listsUpTo are all lists of at most so many numbers of 0 to n - 1, in any order, also with equal ones.
func listsUpTo(n int64, most int) [][]int64 {
	lists, last := [][]int64{{}}, [][]int64{{}}
	for range most {
		longer := [][]int64{}
		for _, list := range last {
			for x := range n {
				longer = append(longer, append(slices.Clone(list), x))
			}
		}
		lists, last = append(lists, longer...), longer
	}
	return lists
}

// Within no steps the set is reached, within more steps no fewer words, and within as many steps as
// there are columns as many as ever.
func TestMoreStepsReachMoreWords(t *testing.T) {
	more := 0
	for _, x := range columnSpaces(t) {
		for _, columns := range x.columnLists() {
			for _, set := range x.fewSets() {
				last := set
				for m := range int64(impl.MaxColumn + 1) {
					words, err := impl.WordsReached(x.space, set, columns, m)
					if len(words) > len(last) {
						more++
					}
					if !holdsAll(words, last) || err != impl.ErrNone {
						t.Errorf("WordsReached(%v, %v, %v, %d) = %v, %d lacks some of %v", x.space, set, columns, m, words, err, last)
					}
					if (m == 0 || m > int64(len(columns))) && len(words) != len(last) {
						t.Errorf("WordsReached(%v, %v, %v, %d) = %v, though %v are all", x.space, set, columns, m, words, last)
					}
					last = words
				}
			}
		}
	}
	if more == 0 {
		t.Errorf("no more words are reached within more steps")
	}
}

// holdsAll reports whether one ascending list has all numbers of another one.
func holdsAll(code []int64, words []int64) bool {
	for _, w := range words {
		if _, found := slices.BinarySearch(code, w); !found {
			return false
		}
	}
	return true
}

// areLed holds the digits of the first columns against those of the places.
func (x plainSpace) areLed(columns []int64) bool {
	places := len(x.space.Sizes)
	for i := range places {
		if i >= len(columns) {
			return false
		}
		for k, d := range x.lists[columns[i]] {
			if (k == i) != (d == 1) || d > 1 {
				return false
			}
		}
	}
	return true
}

func checkLed(t *testing.T, x plainSpace, columns []int64) bool {
	t.Helper()
	want := x.areLed(columns)
	if yes, err := impl.AreLed(x.space, columns); yes != want || err != impl.ErrNone {
		t.Errorf("AreLed(%v, %v) = %v, %d", x.space, columns, yes, err)
	}
	return want
}

func TestColumnsThatAreLed(t *testing.T) {
	for _, x := range columnSpaces(t) {
		n, places := int64(len(x.lists)), len(x.space.Sizes)
		if n <= 4 {
			led := 0
			for _, columns := range listsUpTo(n, 4) {
				if checkLed(t, x, columns) {
					led++
				}
			}
			if led == 0 {
				t.Errorf("%v: no columns are led", x.space)
			}
		}
		for _, columns := range x.columnLists() {
			checkLed(t, x, columns)
		}
		for count := range impl.MaxColumn - places + 1 {
			if !checkLed(t, x, slices.Concat(x.leading(), x.moreColumns(3, int64(count)))) {
				t.Errorf("%v: the leading columns and %d more are not led", x.space, count)
			}
		}
	}
}

// One column that is another word, that is lacking or in the wrong place is enough.
func TestColumnsThatAreNotLed(t *testing.T) {
	for _, x := range columnSpaces(t) {
		leading := x.leading()
		for i, c := range leading {
			for _, other := range []int64{0, (x.size - 1) * c, int64(len(x.lists)) - 1, c - 1, leading[(i+1)%len(leading)]} {
				columns := slices.Clone(leading)
				columns[i] = other
				if checkLed(t, x, columns) != (other == c) {
					t.Errorf("%v: %v are led", x.space, columns)
				}
			}
			if checkLed(t, x, without(leading, i)) || checkLed(t, x, leading[:i]) {
				t.Errorf("%v: the leading columns without %d are led", x.space, i)
			}
		}
		if len(leading) < impl.MaxColumn && checkLed(t, x, append([]int64{0}, leading...)) {
			t.Errorf("%v: columns behind a zero are led", x.space)
		}
	}
}

// columnCase are led columns of a plain space with a set of its words.
type columnCase struct {
	plainSpace
	columns []int64
	set     []int64
}

// columnCases are led columns of each number of them that gives a space.
func columnCases(t *testing.T) []columnCase {
	cases := []columnCase{}
	for _, x := range columnSpaces(t) {
		places := int64(len(x.space.Sizes))
		for more := range impl.MaxColumn - places + 1 {
			if power(x.size, places+more) > impl.MaxWords {
				break
			}
			for kind := range min(more, 1)*3 + 1 {
				for _, set := range x.fewSets() {
					cases = append(cases, columnCase{x, slices.Concat(x.leading(), x.moreColumns(kind, more)), set})
				}
			}
		}
	}
	return cases
}

// words adds up, for all lists of digits, the columns as often as these tell.
func (c columnCase) words() []int64 {
	words := []int64{}
	for w, digits := range digitLists(slices.Repeat([]int64{c.size}, len(c.columns))) {
		sum := int64(0)
		for i, d := range digits {
			for range d {
				sum = c.sums[sum][c.columns[i]]
			}
		}
		if slices.Contains(c.set, sum) {
			words = append(words, int64(w))
		}
	}
	return words
}

// Each sum comes from as many words as any other one, since the columns are led.
func TestCodesByColumns(t *testing.T) {
	for _, c := range columnCases(t) {
		sizes := slices.Repeat([]int64{c.size}, len(c.columns))
		s, code, err := impl.CodeByColumns(c.space, c.set, c.columns)
		checkBuilt(t, "CodeByColumns", s, code, err, sizes, c.words())
		more := int64(len(c.columns) - len(c.space.Sizes))
		if int64(len(code)) != int64(len(c.set))*power(c.size, more) {
			t.Errorf("CodeByColumns(%v, %v, %v): %d words", c.space, c.set, c.columns, len(code))
		}
	}
}

// The radius of a code by columns is at most m just if the columns reach all words from the set within m.
func TestRadiiOfCodesByColumns(t *testing.T) {
	radii := map[int64]int{}
	for _, c := range columnCases(t) {
		s, code, _ := impl.CodeByColumns(c.space, c.set, c.columns)
		radius, err := impl.RadiusOf(s, code)
		if len(c.set) == 0 {
			fails(t, "RadiusOf", number(radius, err), impl.ErrState)
			radius = impl.MaxColumn + 1
		}
		radii[radius]++
		for m := range int64(impl.MaxColumn + 1) {
			words, err := impl.WordsReached(c.space, c.set, c.columns, m)
			if (len(words) == len(c.lists)) != (radius <= m) || err != impl.ErrNone {
				t.Errorf("%v, %v, %v: within %d are reached %v, but the radius is %d", c.space, c.set, c.columns, m, words, radius)
			}
		}
	}
	for radius := range int64(impl.MaxColumn + 2) {
		if radii[radius] == 0 {
			t.Errorf("no code by columns has the radius %d", radius)
		}
	}
}

// The leading columns alone give back the space and the set.
func TestCodesByLeadingColumns(t *testing.T) {
	for _, x := range columnSpaces(t) {
		for _, set := range someCodes(x.space) {
			s, code, err := impl.CodeByColumns(x.space, set, x.leading())
			checkBuilt(t, "CodeByColumns", s, code, err, x.space.Sizes, set)
		}
	}
}

// From the word 0, columns of which none is zero or a multiple of another one give a perfect code, if
// they are all there are.
func TestPerfectCodesByColumns(t *testing.T) {
	for _, c := range []struct {
		size    int64
		places  int
		columns []int64
	}{
		{2, 1, []int64{1}}, {2, 2, []int64{2, 1, 3}}, {2, 3, []int64{4, 2, 1, 3, 5, 6, 7}}, {2, 3, []int64{4, 2, 1, 7, 3, 6, 5}},
		{3, 1, []int64{1}}, {3, 2, []int64{3, 1, 4, 5}}, {3, 2, []int64{3, 1, 7, 8}},
	} {
		x := newPlainSpace(t, c.size, c.places)
		s, code, err := impl.CodeByColumns(x.space, []int64{0}, c.columns)
		if yes, _ := impl.IsPerfect(s, code, 1); !yes || err != impl.ErrNone {
			t.Errorf("CodeByColumns(%v, {0}, %v) = %v, %v, %d is not perfect for 1", x.space, c.columns, s, code, err)
		}
		if yes, _ := impl.IsLinear(s, code); !yes {
			t.Errorf("CodeByColumns(%v, {0}, %v) = %v, %v is not linear", x.space, c.columns, s, code)
		}
		reached, err := impl.WordsReached(x.space, []int64{0}, c.columns, 1)
		checkCode(t, "WordsReached", reached, err, upTo(int64(len(x.lists))))
	}
}

func TestColumnsWrittenOut(t *testing.T) {
	for _, c := range []struct {
		sizes, set, columns []int64
		m                   int64
		reached             []int64
		code                []int64
	}{
		{[]int64{2, 2}, []int64{0}, []int64{2, 1}, 1, []int64{0, 1, 2}, []int64{0}},
		{[]int64{2, 2}, []int64{0}, []int64{2, 1, 3}, 1, []int64{0, 1, 2, 3}, []int64{0, 7}},
		{[]int64{2, 2}, []int64{1}, []int64{2, 1, 3}, 0, []int64{1}, []int64{2, 5}},
		{[]int64{2, 2}, []int64{0}, []int64{2, 1, 0, 2}, 1, []int64{0, 1, 2}, []int64{0, 2, 9, 11}},
		{[]int64{3}, []int64{0}, []int64{1}, 1, []int64{0, 1, 2}, []int64{0}},
		{[]int64{3}, []int64{1}, []int64{1, 2}, 0, []int64{1}, []int64{2, 3, 7}},
		{[]int64{3, 3}, []int64{0}, []int64{3, 1}, 1, []int64{0, 1, 2, 3, 6}, []int64{0}},
		{[]int64{3, 3}, []int64{0}, []int64{3, 1, 5}, 1, []int64{0, 1, 2, 3, 5, 6, 7}, []int64{0, 17, 22}},
		{[]int64{3, 3}, nil, []int64{3, 1, 5}, 8, nil, nil},
	} {
		x := impl.Space{Sizes: c.sizes}
		reached, err := impl.WordsReached(x, c.set, c.columns, c.m)
		checkCode(t, "WordsReached", reached, err, c.reached)
		s, code, err := impl.CodeByColumns(x, c.set, c.columns)
		checkBuilt(t, "CodeByColumns", s, code, err, slices.Repeat(c.sizes[:1], len(c.columns)), c.code)
	}
}

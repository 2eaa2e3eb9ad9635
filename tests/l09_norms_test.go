package tests

import (
	"slices"
	"testing"

	"loop.example/g01411/impl"
)

// normCase is a code with the digits of all words of its space.
type normCase struct {
	coverCase
	digits [][]int64
}

// normSpace is a space with codes of it.
type normSpace struct {
	space impl.Space
	codes [][]int64
}

// notNormal are codes that are not normal, or that have few fit places.
func notNormal(t *testing.T) []normSpace {
	return []normSpace{
		{space(t, 3, 3, 3), [][]int64{{0, 4, 10, 12, 26}, {0, 5, 16, 20, 21}, {0, 1, 3, 4, 17, 26}, {7, 8, 9, 12, 22, 26}, {8, 18, 19}}},
		{space(t, 3, 3, 3, 3), [][]int64{{18, 23, 29, 48, 79}, {2, 38, 58}, {8, 39, 49}}},
		{space(t, 4, 4, 4), [][]int64{{8, 9, 10, 18, 30, 31, 33, 36, 37, 41, 42, 51, 55, 59, 62}, {17, 39, 42, 63}}},
		{space(t, 4, 4, 4, 4), [][]int64{{2, 12, 40, 71, 88, 93, 142, 170, 219, 240, 253}}},
		{space(t, 2, 2, 2, 2, 2), [][]int64{{1, 17}, {19, 31}, {11, 18}}},
		{space(t, 2, 3, 4), [][]int64{{3, 23}, {1, 7, 21}}},
	}
}

// normCases are the cases of the covers, and those of codes that are not normal.
func normCases(t *testing.T) []normCase {
	covers := coverCases(t)
	for _, x := range notNormal(t) {
		table := distanceTable(x.space)
		for _, code := range x.codes {
			covers = append(covers, coverCase{x.space, table, code})
		}
	}
	cases := []normCase{}
	for _, c := range covers {
		cases = append(cases, normCase{c, digitLists(c.space.Sizes)})
	}
	return cases
}

// reaches tries, for each sign of a place, all words of the code that have it.
func (c normCase) reaches(i int, w int64) []int64 {
	reaches := []int64{}
	for d := range c.space.Sizes[i] {
		least := int64(len(c.space.Sizes) + 1)
		for _, u := range c.code {
			if c.digits[u][i] == d {
				least = min(least, c.table[w][u])
			}
		}
		reaches = append(reaches, least)
	}
	return reaches
}

// norm is the greatest sum of the reaches of a word.
func (c normCase) norm(i int) int64 {
	norm := int64(0)
	for w := range c.table {
		norm = max(norm, sumOf(c.reaches(i, int64(w))))
	}
	return norm
}

// radius is the greatest distance of a word from the code, which has words.
func (c normCase) radius() int64 {
	radius := int64(0)
	for w := range c.table {
		radius = max(radius, c.distance(int64(w)))
	}
	return radius
}

// fit are the places with norms that are small enough, for a code with words.
func (c normCase) fit() []int64 {
	fit, radius := []int64{}, c.radius()
	for i, q := range c.space.Sizes {
		if c.norm(i) <= q*radius+q-1 {
			fit = append(fit, int64(i))
		}
	}
	return fit
}

// lacksSign reports whether no word of the code has some sign at a place.
func (c normCase) lacksSign(i int) bool {
	for d := range c.space.Sizes[i] {
		if !slices.ContainsFunc(c.code, func(w int64) bool { return c.digits[w][i] == d }) {
			return true
		}
	}
	return false
}

func TestReaches(t *testing.T) {
	lacking := 0
	for _, c := range normCases(t) {
		step := 1 + len(c.table)/16
		for i := range c.space.Sizes {
			if c.lacksSign(i) {
				lacking++
			}
			for w := int64(0); w < int64(len(c.table)); w += int64(step) {
				want := c.reaches(i, w)
				reaches, err := impl.ReachesOf(c.space, c.code, int64(i), w)
				if !slices.Equal(reaches, want) || err != impl.ErrNone {
					t.Errorf("ReachesOf(%v, %v, %d, %d) = %v, %d instead of %v", c.space, c.code, i, w, reaches, err, want)
				}
			}
		}
	}
	if lacking == 0 {
		t.Errorf("all codes have all signs at all places")
	}
}

// The least reach of a word is its distance from the code, at each place.
func TestLeastReachesAreDistances(t *testing.T) {
	for _, c := range normCases(t) {
		if len(c.code) == 0 {
			continue
		}
		w := int64(len(c.table)) / 3
		distance, _ := impl.DistanceTo(c.space, c.code, w)
		for i := range c.space.Sizes {
			if reaches, err := impl.ReachesOf(c.space, c.code, int64(i), w); slices.Min(reaches) != distance || err != impl.ErrNone {
				t.Errorf("ReachesOf(%v, %v, %d, %d) = %v, %d, but the distance is %d", c.space, c.code, i, w, reaches, err, distance)
			}
		}
	}
}

func TestNorms(t *testing.T) {
	for _, c := range normCases(t) {
		for i := range c.space.Sizes {
			want := c.norm(i)
			if norm, err := impl.NormAt(c.space, c.code, int64(i)); norm != want || err != impl.ErrNone {
				t.Errorf("NormAt(%v, %v, %d) = %d, %d instead of %d", c.space, c.code, i, norm, err, want)
			}
		}
	}
}

// Norms are the greatest sums of what ReachesOf tells of all words.
func TestNormsAreSumsOfReaches(t *testing.T) {
	for _, c := range normCases(t) {
		if len(c.table) > 64 {
			continue
		}
		for i := range c.space.Sizes {
			greatest := int64(0)
			for w := range c.table {
				reaches, _ := impl.ReachesOf(c.space, c.code, int64(i), int64(w))
				greatest = max(greatest, sumOf(reaches))
			}
			if norm, err := impl.NormAt(c.space, c.code, int64(i)); norm != greatest || err != impl.ErrNone {
				t.Errorf("NormAt(%v, %v, %d) = %d, %d, but the greatest sum is %d", c.space, c.code, i, norm, err, greatest)
			}
		}
	}
}

// A word that is as far as the radius has no lesser reach, so that norms are at least the radius for
// each sign. No reach is more than one beyond the number of places.
func TestNormsAreAtLeastWhatRadiiAskFor(t *testing.T) {
	for _, c := range normCases(t) {
		radius, _ := impl.RadiusOf(c.space, c.code)
		for i, q := range c.space.Sizes {
			norm, err := impl.NormAt(c.space, c.code, int64(i))
			if norm < q*radius || norm < q-1 || norm > q*int64(len(c.space.Sizes)+1) || err != impl.ErrNone {
				t.Errorf("NormAt(%v, %v, %d) = %d, %d, and the radius is %d", c.space, c.code, i, norm, err, radius)
			}
		}
	}
}

// Fit places have norms that are small enough, and a code is normal if it has one.
func TestFitPlaces(t *testing.T) {
	all, none, some := 0, 0, 0
	for _, c := range normCases(t) {
		if len(c.code) == 0 {
			continue
		}
		want := c.fit()
		fit, err := impl.FitPlaces(c.space, c.code)
		if !slices.Equal(fit, want) || err != impl.ErrNone {
			t.Errorf("FitPlaces(%v, %v) = %v, %d instead of %v", c.space, c.code, fit, err, want)
		}
		yes, err := impl.IsNormal(c.space, c.code)
		if yes != (len(want) > 0) || err != impl.ErrNone {
			t.Errorf("IsNormal(%v, %v) = %v, %d, and fit are %v", c.space, c.code, yes, err, want)
		}
		switch {
		case len(want) == 0:
			none++
		case len(want) == len(c.space.Sizes):
			all++
		default:
			some++
		}
	}
	if all == 0 || none == 0 || some == 0 {
		t.Errorf("all places of %d codes are fit, none of %d, some of %d", all, none, some)
	}
}

// Fit places are just those at which NormAt tells at most what RadiusOf allows.
func TestFitPlacesByNormsAndRadii(t *testing.T) {
	for _, c := range normCases(t) {
		if len(c.code) == 0 || len(c.table) > 300 {
			continue
		}
		fit, _ := impl.FitPlaces(c.space, c.code)
		radius, _ := impl.RadiusOf(c.space, c.code)
		for i, q := range c.space.Sizes {
			norm, _ := impl.NormAt(c.space, c.code, int64(i))
			if slices.Contains(fit, int64(i)) != (norm <= q*radius+q-1) {
				t.Errorf("FitPlaces(%v, %v) = %v, but %d has the norm %d, and the radius is %d", c.space, c.code, fit, i, norm, radius)
			}
		}
	}
}

// Orders of the places put their norms into the same order.
func TestNormsInOtherOrders(t *testing.T) {
	for _, x := range notNormal(t) {
		for _, code := range x.codes {
			for _, p := range permutations(len(x.space.Sizes)) {
				s, ordered, _ := impl.OrderPlaces(x.space, code, p)
				for i, k := range p {
					norm, err := impl.NormAt(s, ordered, k)
					if want, _ := impl.NormAt(x.space, code, int64(i)); norm != want || err != impl.ErrNone {
						t.Errorf("NormAt(%v, %v, %d) = %d, %d instead of %d", s, ordered, k, norm, err, want)
					}
				}
			}
		}
	}
}

func TestReachesWrittenOut(t *testing.T) {
	for _, c := range []struct {
		sizes, code []int64
		i, w        int64
		want        []int64
	}{
		{[]int64{2, 2, 2}, []int64{0, 7}, 0, 1, []int64{1, 2}},
		{[]int64{2, 2, 2}, []int64{0, 1}, 0, 1, []int64{0, 4}},
		{[]int64{2, 2, 2}, []int64{0, 1}, 2, 6, []int64{2, 3}},
		{[]int64{2, 2, 2}, nil, 1, 5, []int64{4, 4}},
		{[]int64{2, 3, 4}, []int64{0, 12, 17, 23}, 1, 10, []int64{2, 3, 2}},
		{[]int64{2, 3, 4}, []int64{0, 12, 17, 23}, 2, 10, []int64{2, 3, 4, 2}},
		{[]int64{3}, []int64{1}, 0, 1, []int64{2, 0, 2}},
		{[]int64{4}, []int64{0, 1, 2, 3}, 0, 2, []int64{1, 1, 0, 1}},
		{[]int64{4, 4, 4, 4, 4}, []int64{1023}, 4, 0, []int64{6, 6, 6, 5}},
		{[]int64{2, 2, 2, 2, 2, 2, 2, 2}, []int64{0}, 7, 255, []int64{8, 9}},
	} {
		reaches, err := impl.ReachesOf(impl.Space{Sizes: c.sizes}, c.code, c.i, c.w)
		checkCode(t, "ReachesOf", reaches, err, c.want)
	}
}

func TestNormsWrittenOut(t *testing.T) {
	for _, c := range []struct {
		sizes, code, norms, fit []int64
	}{
		{[]int64{2, 2, 2}, []int64{0, 7}, []int64{3, 3, 3}, []int64{0, 1, 2}},
		{[]int64{2, 2, 2}, []int64{0, 1}, []int64{6, 6, 5}, []int64{2}},
		{[]int64{2, 2, 2}, upTo(8), []int64{1, 1, 1}, []int64{0, 1, 2}},
		{[]int64{2}, []int64{0}, []int64{3}, []int64{0}},
		{[]int64{4}, upTo(4), []int64{3}, []int64{0}},
		// The word 022 is 1 from 222, 2 from the words with 0, and 3 from those with 1 at the place 0.
		{[]int64{3, 3, 3}, []int64{0, 4, 10, 12, 26}, []int64{6, 6, 6}, nil},
		{[]int64{2, 3}, []int64{0, 1, 2}, []int64{4, 5}, []int64{1}},
		// The word 255 has at each place the reach 8 for the sign 0, and 9 for the sign 1, which no word has.
		{[]int64{2, 2, 2, 2, 2, 2, 2, 2}, []int64{0}, []int64{17, 17, 17, 17, 17, 17, 17, 17}, upTo(8)},
		{[]int64{4, 4, 4, 4, 4}, []int64{0}, []int64{23, 23, 23, 23, 23}, upTo(5)},
		{[]int64{4, 4, 4, 4, 4}, upTo(1024), []int64{3, 3, 3, 3, 3}, upTo(5)},
	} {
		s := impl.Space{Sizes: c.sizes}
		for i, want := range c.norms {
			if norm, err := impl.NormAt(s, c.code, int64(i)); norm != want || err != impl.ErrNone {
				t.Errorf("NormAt(%v, %v, %d) = %d, %d", s, c.code, i, norm, err)
			}
		}
		fit, err := impl.FitPlaces(s, c.code)
		checkCode(t, "FitPlaces", fit, err, c.fit)
		if yes, err := impl.IsNormal(s, c.code); yes != (len(c.fit) > 0) || err != impl.ErrNone {
			t.Errorf("IsNormal(%v, %v) = %v, %d", s, c.code, yes, err)
		}
	}
}

// No word has a sign of a code without words, so all reaches are one beyond the number of places.
func TestNormsOfCodesWithoutWords(t *testing.T) {
	for _, s := range append(smallSpaces(t), largeSpaces(t)...) {
		n, _ := impl.CountWords(s)
		none := int64(len(s.Sizes) + 1)
		for i, q := range s.Sizes {
			for _, code := range [][]int64{nil, {}} {
				reaches, err := impl.ReachesOf(s, code, int64(i), n-1)
				checkCode(t, "ReachesOf no words", reaches, err, slices.Repeat([]int64{none}, int(q)))
				if norm, err := impl.NormAt(s, code, int64(i)); norm != q*none || err != impl.ErrNone {
					t.Errorf("NormAt(%v, %v, %d) = %d, %d", s, code, i, norm, err)
				}
			}
		}
	}
}

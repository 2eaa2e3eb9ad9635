package impl

import (
	"slices"
	"testing"
)

// A loop over ways may be left at any of them: no more may be handed out then.
func TestWaysLeftEarly(t *testing.T) {
	s := Space{Sizes: []int64{2, 3, 2}}
	for stop := range 2 * 12 {
		count := 0
		for range waysOfForms(s) {
			count++
			if count == stop+1 {
				break
			}
		}
		if count != stop+1 {
			t.Errorf("%d ways instead of %d", count, stop+1)
		}
	}
}

// Ways are kept after their round of the loop, so each has to stay as it was.
func TestWaysStayDifferent(t *testing.T) {
	s := Space{Sizes: []int64{2, 2}}
	seen := map[[4]int64]bool{}
	for _, next := range slices.Collect(waysOfForms(s)) {
		seen[[4]int64{next(0), next(1), next(2), next(3)}] = true
	}
	if len(seen) != 2*4 {
		t.Errorf("%d ways", len(seen))
	}
}

func TestOrdersFillTheirArrays(t *testing.T) {
	if o := orderOf([]int64{2, 0, 1}); o != (order{2, 0, 1, 3, 4, 5, 6, 7}) {
		t.Errorf("order %v", o)
	}
	if o := orderOf([]int64{7, 6, 5, 4, 3, 2, 1, 0}); o != (order{7, 6, 5, 4, 3, 2, 1, 0}) {
		t.Errorf("order %v", o)
	}
}

func TestOrdersKeepSizes(t *testing.T) {
	for _, c := range []struct {
		sizes []int64
		count int
	}{
		{[]int64{2}, 1}, {[]int64{2, 3}, 1}, {[]int64{3, 3}, 2}, {[]int64{2, 3, 4}, 1}, {[]int64{2, 3, 2, 3, 2}, 12},
		{[]int64{2, 2, 2, 2, 2, 2}, 720}, {[]int64{3, 3, 3, 3}, 24},
	} {
		s := Space{Sizes: c.sizes}
		orders := keepingOrders(s)
		for k, o := range orders {
			if !slices.Equal(o.placed(s.Sizes), s.Sizes) || slices.Contains(orders[:k], o) {
				t.Errorf("%v: the order %v does not keep the sizes, or is there twice", s, o)
			}
		}
		if len(orders) != c.count {
			t.Errorf("%v: %d orders", s, len(orders))
		}
	}
}

package tests

import (
	"math/bits"
	"slices"
	"testing"

	"loop.example/g01411/impl"
)

// bitOf has, of words of n places of the size 2, the digit 1 at the place i alone.
func bitOf(n int, i int) int64 {
	return 1 << (n - 1 - i)
}

// bundleByHand goes through the code again and again, as long as a word is bound to one that has been
// found. Words of places of the size 2 have their digits as bits.
func bundleByHand(code []int64, w int64, bit int64) []int64 {
	found := map[int64]bool{w: true}
	for more := true; more; {
		more = false
		for _, u := range code {
			for _, v := range code {
				if found[u] && !found[v] && bits.OnesCount64(uint64(u^v)) == 3 && (u^v)&bit != 0 {
					found[v], more = true, true
				}
			}
		}
	}
	return slices.DeleteFunc(slices.Clone(code), func(u int64) bool { return !found[u] })
}

// switchedByHand turns the bit of the words of a bundle.
func switchedByHand(code []int64, bundle []int64, bit int64) []int64 {
	switched := slices.Clone(code)
	for k, u := range code {
		if slices.Contains(bundle, u) {
			switched[k] = u ^ bit
		}
	}
	slices.Sort(switched)
	return switched
}

// bundleCodes are all perfect codes for 1 of one place and of three, and of seven places those that
// come from the columns by shifts, by an order of places and by switched bundles.
func bundleCodes(t *testing.T) map[int][][]int64 {
	codes := map[int][][]int64{1: {{0}, {1}}, 3: {{0, 7}, {1, 6}, {2, 5}, {3, 4}}}
	s := space(t, 2, 2, 2, 2, 2, 2, 2)
	for w := int64(0); w < 128; w += 9 {
		code, _ := impl.ShiftCode(s, sevenPlaces(), w)
		_, ordered, _ := impl.OrderPlaces(s, code, []int64{6, 2, 0, 5, 1, 3, 4})
		bit := bitOf(7, int(w)%7)
		switched := switchedByHand(code, bundleByHand(code, code[w%16], bit), bit)
		codes[7] = append(codes[7], code, ordered, switched)
	}
	return codes
}

// eachBundle goes through the words and places of the codes.
func eachBundle(t *testing.T, check func(s impl.Space, code []int64, w int64, i int)) {
	for n, codes := range bundleCodes(t) {
		s := space(t, slices.Repeat([]int64{2}, n)...)
		for _, code := range codes {
			for _, w := range code {
				for i := range n {
					check(s, code, w, i)
				}
			}
		}
	}
}

func TestBundles(t *testing.T) {
	eachBundle(t, func(s impl.Space, code []int64, w int64, i int) {
		want := bundleByHand(code, w, bitOf(len(s.Sizes), i))
		bundle, err := impl.BundleOf(s, code, w, int64(i))
		checkCode(t, "BundleOf", bundle, err, want)
		// Each word of a bundle has the same one.
		for _, u := range bundle {
			again, err := impl.BundleOf(s, code, u, int64(i))
			checkCode(t, "BundleOf another word", again, err, bundle)
		}
	})
}

// Switched codes are perfect, and go back when they are switched again.
func TestSwitchedBundles(t *testing.T) {
	eachBundle(t, func(s impl.Space, code []int64, w int64, i int) {
		bit := bitOf(len(s.Sizes), i)
		want := switchedByHand(code, bundleByHand(code, w, bit), bit)
		switched, err := impl.SwitchBundle(s, code, w, int64(i))
		checkCode(t, "SwitchBundle", switched, err, want)
		perfect, err := impl.IsPerfect(s, switched, 1)
		if !perfect || slices.Equal(switched, code) || err != impl.ErrNone {
			t.Errorf("SwitchBundle(%v, %v, %d, %d) = %v, perfect %v, %d", s, code, w, i, switched, perfect, err)
		}
		if excess, err := impl.ExcessOf(s, switched, 1); excess != 0 || err != impl.ErrNone {
			t.Errorf("ExcessOf(%v, %v, 1) = %d, %d", s, switched, excess, err)
		}
		back, err := impl.SwitchBundle(s, switched, w^bit, int64(i))
		checkCode(t, "SwitchBundle back", back, err, code)
	})
}

// The bundles at a place part the code, and with all of them switched it is shifted.
func TestAllBundlesSwitched(t *testing.T) {
	eachBundle(t, func(s impl.Space, code []int64, w int64, i int) {
		bit := bitOf(len(s.Sizes), i)
		bundle, _ := impl.BundleOf(s, code, w, int64(i))
		switched, err := impl.SwitchBundle(s, code, w, int64(i))
		for _, u := range code {
			if !slices.Contains(bundle, u) && slices.Contains(switched, u) {
				switched, err = impl.SwitchBundle(s, switched, u, int64(i))
			}
		}
		shifted, _ := impl.ShiftCode(s, code, bit)
		checkCode(t, "SwitchBundle of all", switched, err, shifted)
	})
}

// From one perfect code of seven places for 1, switched bundles lead to all 240 of them.
func TestSwitchedBundlesLeadToAll(t *testing.T) {
	s, code, _ := impl.HammingCode(2, 3)
	codes, known := [][]int64{code}, map[string]bool{}
	for k := 0; k < len(codes); k++ {
		for _, w := range []int64{codes[k][0], codes[k][7], codes[k][15]} {
			for i := range s.Sizes {
				switched, err := impl.SwitchBundle(s, codes[k], w, int64(i))
				text, _ := impl.CodeText(s, switched)
				if perfect, _ := impl.IsPerfect(s, switched, 1); !perfect || err != impl.ErrNone {
					t.Errorf("SwitchBundle(%v, %v, %d, %d) = %v, %d", s, codes[k], w, i, switched, err)
				}
				if !known[text] {
					known[text] = true
					codes = append(codes, switched)
				}
			}
		}
	}
	if len(known) != 240 {
		t.Errorf("%d codes", len(known))
	}
}

func TestBundlesWrittenOut(t *testing.T) {
	seven := []int64{2, 2, 2, 2, 2, 2, 2}
	for _, c := range []struct {
		sizes, code      []int64
		w, i             int64
		bundle, switched []int64
	}{
		{seven[:1], []int64{0}, 0, 0, []int64{0}, []int64{1}}, {seven[:1], []int64{1}, 1, 0, []int64{1}, []int64{0}},
		{seven[:3], []int64{0, 7}, 0, 0, []int64{0, 7}, []int64{3, 4}}, {seven[:3], []int64{0, 7}, 7, 1, []int64{0, 7}, []int64{2, 5}},
		{seven[:3], []int64{0, 7}, 0, 2, []int64{0, 7}, []int64{1, 6}}, {seven[:3], []int64{2, 5}, 5, 1, []int64{2, 5}, []int64{0, 7}},
		{
			seven, sevenPlaces(), 0, 0, []int64{0, 15, 51, 60, 67, 76, 112, 127},
			[]int64{3, 12, 22, 25, 37, 42, 48, 63, 64, 79, 85, 90, 102, 105, 115, 124},
		},
		{
			seven, sevenPlaces(), 15, 6, []int64{15, 22, 42, 51, 76, 85, 105, 112},
			[]int64{0, 14, 23, 25, 37, 43, 50, 60, 67, 77, 84, 90, 102, 104, 113, 127},
		},
	} {
		s := space(t, c.sizes...)
		bundle, err := impl.BundleOf(s, c.code, c.w, c.i)
		checkCode(t, "BundleOf", bundle, err, c.bundle)
		switched, err := impl.SwitchBundle(s, c.code, c.w, c.i)
		checkCode(t, "SwitchBundle", switched, err, c.switched)
	}
}

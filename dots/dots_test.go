package dots

import (
	"math"
	"slices"
	"sync"
	"testing"

	"hearsay/api"
)

// 6.1: sets that may be, and others, written down.
func TestCheckTable(t *testing.T) {
	for _, s := range slices.Concat(edges(), small()) {
		if e := s.Check(); e != api.OK {
			t.Errorf("Check of %v is %v", s, e)
		}
	}
	for _, c := range wrong() {
		if e := c.s.Check(); e != c.err {
			t.Errorf("Check of %v is %v, not %v", c.s, e, c.err)
		}
	}
}

// 6.1: of each count of Base, what stands just behind it belongs into Base, what stands two behind it does not.
func TestCheckBesideBase(t *testing.T) {
	for _, peer := range []int{0, 1, 31, lastPeer} {
		for _, count := range []int{1, 2, 7, top - 3, top - 2, top - 1, top} {
			base := list(peer, count)
			for further := max(0, count-2); further <= count+4; further++ {
				s := set(base, list(peer, further))
				if got, want := s.Check(), checkWords(s); got != want {
					t.Errorf("Check of %v is %v, not %v", s, got, want)
				}
			}
		}
	}
}

// 6.1: which dots are there, written down.
func TestHasTable(t *testing.T) {
	s := set(list(0, 2, 3, 1, lastPeer, top-2), list(0, 4, 1, 2, 1, 3, 3, 5, lastPeer, top))
	for _, c := range []struct {
		s    Set
		d    api.Dot
		want bool
	}{
		{s, dot(0, 1), true}, {s, dot(0, 2), true}, {s, dot(0, 3), false}, {s, dot(0, 4), true}, {s, dot(0, 5), false},
		{s, dot(1, 1), false}, {s, dot(1, 2), true}, {s, dot(1, 3), true}, {s, dot(1, 4), false}, {s, dot(2, 1), false}, {s, dot(2, 2), false},
		{s, dot(3, 1), true}, {s, dot(3, 2), false}, {s, dot(3, 4), false}, {s, dot(3, 5), true}, {s, dot(3, 6), false}, {s, dot(62, 1), false},
		{s, dot(lastPeer, 1), true}, {s, dot(lastPeer, top-2), true}, {s, dot(lastPeer, top-1), false}, {s, dot(lastPeer, top), true},
		{Set{}, dot(0, 1), false}, {set([]api.Dot{}, []api.Dot{}), dot(lastPeer, top), false}, {set(nil, list(0, top)), dot(0, top), true}, {set(nil, list(0, top)), dot(0, 1), false}, {set(list(0, top), nil), dot(0, top), true},
		// Dots that may not be.
		{s, dot(0, 0), false}, {s, dot(0, -1), false}, {s, dot(1, 0), false}, {s, dot(lastPeer, top+1), false}, {s, dot(0, math.MinInt), false}, {s, dot(0, math.MaxInt), false}, {s, dot(-1, 1), false}, {s, dot(64, 1), false}, {s, dot(-1, 4), false}, {s, dot(64, 4), false}, {s, dot(math.MinInt, 1), false}, {s, dot(math.MaxInt, 1), false}, {Set{}, dot(0, 0), false}, {Set{}, dot(-1, -1), false},
	} {
		if got := c.s.Has(c.d); got != c.want {
			t.Errorf("%v has %v: %v", c.s, c.d, got)
		}
	}
}

// 6.1: how many dots there are, written down.
func TestLenTable(t *testing.T) {
	for _, c := range []struct {
		s    Set
		want int
	}{
		{Set{}, 0}, {set([]api.Dot{}, []api.Dot{}), 0}, {set(list(0, 1), nil), 1}, {set(list(0, 7), nil), 7}, {set(nil, list(0, 7)), 1}, {set(nil, list(lastPeer, top)), 1}, {set(list(lastPeer, top), nil), top},
		{set(list(0, 2, 3, 1), list(0, 4, 1, 2, 3, 3, lastPeer, 7)), 7}, {set(list(0, top-2), list(0, top)), top - 1}, {set(allPeers(top), nil), 64 << 20}, {set(nil, allPeers(top)), 64}, {set(allPeers(top-2), allPeers(top)), 64<<20 - 64},
	} {
		if got := c.s.Len(); got != c.want {
			t.Errorf("Len of %v is %d, not %d", c.s, got, c.want)
		}
	}
}

// 6.1, 6.2, 6.3: a set that may not be has nothing, is not added to, joined, within another one, and has no gaps; on either side.
func TestSetsThatMayNotBe(t *testing.T) {
	rights := append(edges(), small()[100:120]...)
	for _, c := range wrong() {
		s := c.s
		for _, d := range slices.Concat(s.Base, s.Extra, list(0, 1, 1, 1, 1, 2, 2, 9, lastPeer, top, -1, 1, 64, 1, 0, 0)) {
			if s.Has(d) {
				t.Errorf("%v has %v", s, d)
			}
			if got, is := s.Add(d); is || !same(got, s) {
				t.Errorf("%v with %v is %v, %v", s, d, got, is)
			}
		}
		if s.Len() != 0 || len(s.Gaps(9)) != 0 || len(s.Gaps(math.MaxInt)) != 0 || s.Within(s) || !same(s.Join(s), Set{}) {
			t.Errorf("of %v: %d, %v", s, s.Len(), s.Gaps(9))
		}
		for _, r := range rights {
			if !same(s.Join(r), Set{}) || !same(r.Join(s), Set{}) || s.Within(r) || r.Within(s) {
				t.Errorf("of %v and %v: %v and %v", s, r, s.Join(r), r.Join(s))
			}
		}
		for _, other := range wrong() {
			if !same(s.Join(other.s), Set{}) || s.Within(other.s) {
				t.Errorf("of %v and %v", s, other.s)
			}
		}
	}
}

// 6.2: sets with a dot more, written down, the chapter's among them.
func TestAddTable(t *testing.T) {
	s := set(list(0, 2, 3, 1), list(0, 4, 0, 5, 0, 7, 2, 3))
	for _, c := range []struct {
		s    Set
		d    api.Dot
		want Set
		is   bool
	}{
		{Set{}, dot(1, 2), set(nil, list(1, 2)), true}, {set(nil, list(1, 2)), dot(1, 1), set(list(1, 2), nil), true}, {Set{}, dot(1, 3), set(nil, list(1, 3)), true},
		{Set{}, dot(0, 1), set(list(0, 1), nil), true}, {Set{}, dot(lastPeer, 1), set(list(lastPeer, 1), nil), true}, {Set{}, dot(0, top), set(nil, list(0, top)), true}, {Set{}, dot(lastPeer, top), set(nil, list(lastPeer, top)), true}, {set([]api.Dot{}, []api.Dot{}), dot(5, 1), set(list(5, 1), nil), true},
		// There already: in Base, in Extra.
		{s, dot(0, 1), s, false}, {s, dot(0, 2), s, false}, {s, dot(0, 4), s, false}, {s, dot(0, 5), s, false}, {s, dot(0, 7), s, false}, {s, dot(2, 3), s, false}, {s, dot(3, 1), s, false},
		// Just behind Base, with nothing that follows; and closing a gap, so that one or more go over.
		{s, dot(3, 2), set(list(0, 2, 3, 2), list(0, 4, 0, 5, 0, 7, 2, 3)), true},
		{s, dot(0, 3), set(list(0, 5, 3, 1), list(0, 7, 2, 3)), true},
		{set(list(0, 5), list(0, 7)), dot(0, 6), set(list(0, 7), nil), true},
		{set(list(0, 1), list(0, 3, 0, 4, 0, 5, 0, 6)), dot(0, 2), set(list(0, 6), nil), true},
		{set(nil, list(0, 2, 0, 3, 0, 5)), dot(0, 1), set(list(0, 3), list(0, 5)), true},
		{set(list(lastPeer, top-2), list(lastPeer, top)), dot(lastPeer, top-1), set(list(lastPeer, top), nil), true}, {set(list(0, top-1), nil), dot(0, top), set(list(0, top), nil), true},
		{set(list(0, 1, 2, 1), list(0, 3, 1, 2, 2, 3)), dot(1, 1), set(list(0, 1, 1, 2, 2, 1), list(0, 3, 2, 3)), true},
		// Leaving a gap; closing one that is not at Base.
		{s, dot(0, 9), set(list(0, 2, 3, 1), list(0, 4, 0, 5, 0, 7, 0, 9, 2, 3)), true}, {s, dot(0, 6), set(list(0, 2, 3, 1), list(0, 4, 0, 5, 0, 6, 0, 7, 2, 3)), true}, {s, dot(2, 2), set(list(0, 2, 3, 1), list(0, 4, 0, 5, 0, 7, 2, 2, 2, 3)), true}, {s, dot(3, 3), set(list(0, 2, 3, 1), list(0, 4, 0, 5, 0, 7, 2, 3, 3, 3)), true}, {s, dot(0, top), set(list(0, 2, 3, 1), list(0, 4, 0, 5, 0, 7, 0, top, 2, 3)), true},
		// Of a peer that is not there yet, ahead of others, between them and behind.
		{s, dot(1, 1), set(list(0, 2, 1, 1, 3, 1), s.Extra), true}, {s, dot(1, 2), set(s.Base, list(0, 4, 0, 5, 0, 7, 1, 2, 2, 3)), true}, {s, dot(lastPeer, 1), set(list(0, 2, 3, 1, lastPeer, 1), s.Extra), true}, {s, dot(lastPeer, 2), set(s.Base, list(0, 4, 0, 5, 0, 7, 2, 3, lastPeer, 2)), true}, {set(list(1, 1), list(1, 3)), dot(0, 1), set(list(0, 1, 1, 1), list(1, 3)), true}, {set(list(1, 1), list(1, 3)), dot(0, 2), set(list(1, 1), list(0, 2, 1, 3)), true},
		{set(allPeers(1)[:63], allPeers(3)), dot(lastPeer, 1), set(allPeers(1), allPeers(3)), true}, {set(allPeers(top), nil), dot(31, top), set(allPeers(top), nil), false},
		// Dots that may not be.
		{s, dot(-1, 1), s, false}, {s, dot(64, 1), s, false}, {s, dot(0, 0), s, false}, {s, dot(0, -1), s, false}, {s, dot(0, top+1), s, false}, {s, dot(1, 0), s, false}, {s, dot(math.MinInt, math.MinInt), s, false}, {s, dot(math.MaxInt, math.MaxInt), s, false}, {Set{}, dot(0, 0), Set{}, false}, {Set{}, dot(64, 1), Set{}, false}, {set(list(0, top), nil), dot(0, top+1), set(list(0, top), nil), false},
	} {
		if got, is := c.s.Add(c.d); !same(got, c.want) || is != c.is {
			t.Errorf("%v with %v is %v, %v, not %v, %v", c.s, c.d, got, is, c.want, c.is)
		}
	}
}

// 6.2: what two come to, written down, in either order.
func TestJoinTable(t *testing.T) {
	s := set(list(0, 2, 3, 1), list(0, 4, 2, 3))
	for _, c := range []struct{ a, b, want Set }{
		{Set{}, Set{}, Set{}}, {set([]api.Dot{}, nil), set(nil, []api.Dot{}), Set{}}, {s, Set{}, s}, {s, s, s}, {s, set([]api.Dot{}, []api.Dot{}), s},
		// The one fills the other one's gaps, by its Base, by its Extra, by both.
		{set(list(1, 1), list(1, 3)), set(nil, list(1, 2)), set(list(1, 3), nil)}, {set(list(1, 1), list(1, 4)), set(list(1, 3), nil), set(list(1, 4), nil)}, {set(list(1, 1), list(1, 4, 1, 5)), set(list(1, 2), list(1, 4, 1, 6)), set(list(1, 2), list(1, 4, 1, 5, 1, 6))},
		{set(list(1, 1), list(1, 3, 1, 5)), set(nil, list(1, 2, 1, 4, 1, 6)), set(list(1, 6), nil)}, {set(list(1, 1), list(1, 3, 1, 5)), set(nil, list(1, 2, 1, 6)), set(list(1, 3), list(1, 5, 1, 6))}, {set(nil, list(1, 2, 1, 3)), set(list(1, 1), nil), set(list(1, 3), nil)}, {set(list(0, 1), list(1, 2)), set(list(1, 1), list(0, 3)), set(list(0, 1, 1, 2), list(0, 3))},
		// What is in the one's Extra is in the other one's Base, or ends just behind it.
		{set(nil, list(1, 2, 1, 4)), set(list(1, 3), nil), set(list(1, 4), nil)}, {set(nil, list(1, 2, 1, 4)), set(list(1, 4), nil), set(list(1, 4), nil)}, {set(nil, list(1, 2, 1, 4)), set(list(1, 9), nil), set(list(1, 9), nil)}, {set(nil, list(1, 2, 1, 5)), set(list(1, 3), nil), set(list(1, 3), list(1, 5))},
		// Peers of the one alone, of both, and gaps that stay.
		{s, set(list(1, 1), list(lastPeer, top)), set(list(0, 2, 1, 1, 3, 1), list(0, 4, 2, 3, lastPeer, top))}, {s, set(nil, list(0, 4, 2, 3)), s}, {s, set(nil, list(0, 5, 2, 2)), set(list(0, 2, 3, 1), list(0, 4, 0, 5, 2, 2, 2, 3))}, {set(nil, list(5, 7)), set(nil, list(4, 9)), set(nil, list(4, 9, 5, 7))}, {set(nil, list(5, 7)), set(nil, list(5, 7)), set(nil, list(5, 7))},
		// At the limits.
		{set(list(0, top-2), list(0, top)), set(nil, list(0, top-1)), set(list(0, top), nil)}, {set(nil, list(lastPeer, top)), set(list(lastPeer, top-1), nil), set(list(lastPeer, top), nil)}, {set(allPeers(1), allPeers(3)), set(nil, allPeers(2)), set(allPeers(3), nil)}, {set(allPeers(top), nil), set(nil, allPeers(top)), set(allPeers(top), nil)}, {set(allPeers(1), nil), set(nil, allPeers(top)), set(allPeers(1), allPeers(top))},
	} {
		for range 2 {
			if got := c.a.Join(c.b); !same(got, c.want) {
				t.Errorf("Join of %v and %v is %v, not %v", c.a, c.b, got, c.want)
			}
			c.a, c.b = c.b, c.a
		}
	}
}

// 6.2: what is within what, written down, there and back.
func TestWithinTable(t *testing.T) {
	s := set(list(0, 2, 3, 1), list(0, 4, 2, 3))
	for _, c := range []struct {
		a, b        Set
		there, back bool
	}{
		{Set{}, Set{}, true, true}, {Set{}, set([]api.Dot{}, []api.Dot{}), true, true}, {s, s, true, true}, {Set{}, s, true, false}, {Set{}, set(nil, list(lastPeer, top)), true, false},
		{set(nil, list(1, 2)), set(list(1, 2), nil), true, false}, {set(nil, list(1, 2, 1, 4)), set(list(1, 3), nil), false, false}, {set(nil, list(1, 2, 1, 4)), set(list(1, 4), nil), true, false}, {set(nil, list(1, 2, 1, 5)), set(list(1, 2), list(1, 5)), true, false}, {set(list(1, 1), list(1, 5)), set(list(1, 2), list(1, 4, 1, 5)), true, false},
		{set(list(1, 1), list(1, 3)), set(list(1, 1), list(1, 3, 1, 4)), true, false}, {set(list(1, 1), list(1, 3)), set(list(1, 1), list(1, 4)), false, false}, {set(list(1, 2), nil), set(list(1, 1), list(1, 3)), false, false}, {set(list(1, 1), nil), set(nil, list(1, 2)), false, false}, {set(list(1, 1), nil), set(list(1, 1), list(1, 3)), true, false}, {set(list(1, 1), list(0, 2)), set(list(1, 1), nil), false, true},
		{set(list(1, 3), nil), set(list(2, 3), nil), false, false}, {set(nil, list(1, 3)), set(nil, list(2, 3)), false, false}, {set(list(0, top-2), list(0, top)), set(list(0, top), nil), true, false}, {set(nil, allPeers(top)), set(allPeers(top), nil), true, false}, {set(allPeers(1), allPeers(3)), set(allPeers(3), nil), true, false}, {set(allPeers(1), allPeers(3)), set(allPeers(2), nil), false, false},
	} {
		if there, back := c.a.Within(c.b), c.b.Within(c.a); there != c.there || back != c.back {
			t.Errorf("of %v and %v: within there is %v, back %v", c.a, c.b, there, back)
		}
	}
}

// 6.3: gaps, written down: of none, of one, of just as many as there are, of more.
func TestGapsTable(t *testing.T) {
	for _, c := range []struct {
		s    Set
		want []api.Dot
	}{
		{Set{}, nil}, {set(list(0, 1), nil), nil}, {set(allPeers(top), nil), nil}, {set(nil, list(1, 3)), list(1, 1, 1, 2)}, {set(nil, list(0, 2)), list(0, 1)}, {set(nil, list(lastPeer, 2)), list(lastPeer, 1)},
		{set(list(1, 1), list(1, 3)), list(1, 2)}, {set(list(1, 2), list(1, 5)), list(1, 3, 1, 4)}, {set(list(1, 2), list(1, 5, 1, 6, 1, 9)), list(1, 3, 1, 4, 1, 7, 1, 8)}, {set(list(1, 7), list(2, 3)), list(2, 1, 2, 2)}, {set(list(2, 7), list(1, 3)), list(1, 1, 1, 2)},
		{set(list(0, 2, 3, 1), list(0, 4, 1, 2, 3, 3, 3, 5, lastPeer, 3)), list(0, 3, 1, 1, 3, 2, 3, 4, lastPeer, 1, lastPeer, 2)}, {set(nil, list(0, 2, 1, 2, 2, 2)), list(0, 1, 1, 1, 2, 1)}, {set(list(0, top-2), list(0, top)), list(0, top-1)}, {set(list(lastPeer, top-3), list(lastPeer, top)), list(lastPeer, top-2, lastPeer, top-1)},
		{set(nil, allPeers(2)), allPeers(1)}, {set(allPeers(1), allPeers(3)), allPeers(2)}, {set(allPeers(top-2), allPeers(top)), allPeers(top - 1)},
	} {
		for _, most := range []int{math.MinInt, -1, 0, 1, 2, len(c.want) - 1, len(c.want), len(c.want) + 1, 1000, math.MaxInt32, math.MaxInt} {
			want := c.want[:min(max(most, 0), len(c.want))]
			if got := c.s.Gaps(most); !slices.Equal(got, want) {
				t.Errorf("Gaps(%d) of %v are %v, not %v", most, c.s, got, want)
			}
		}
	}
}

// 6.3: a gap of many dots, as a whole and the first of them.
func TestLongGap(t *testing.T) {
	for _, c := range []struct {
		s           Set
		peer, first int
	}{
		{set(nil, list(0, top)), 0, 1}, {set(list(lastPeer, 7), list(lastPeer, top)), lastPeer, 8},
	} {
		for _, most := range []int{1, 3, 1000, top - c.first - 1, top - c.first, top - c.first + 1, math.MaxInt} {
			got := c.s.Gaps(most)
			if len(got) != min(most, top-c.first) {
				t.Fatalf("Gaps(%d) of %v are %d", most, c.s, len(got))
			}
			for i, d := range got {
				if d != dot(c.peer, c.first+i) {
					t.Fatalf("Gaps(%d) of %v have %v at %d", most, c.s, d, i)
				}
			}
		}
	}
	if got := set(nil, allPeers(top)).Gaps(top + 1); len(got) != top+1 || got[top-2] != dot(0, top-1) || got[top-1] != dot(1, 1) || got[top] != dot(1, 2) {
		t.Errorf("%d gaps of the last dots of all peers", len(got))
	}
}

// holdSingle holds a set's single calls against the chapter's words.
func holdSingle(t *testing.T, s Set, dots []api.Dot) {
	t.Helper()
	m, err := modelOf(s), checkWords(s)
	if got := s.Check(); got != err {
		t.Fatalf("Check of %v is %v, not %v", s, got, err)
	}
	if got := s.Len(); got != len(m) {
		t.Fatalf("Len of %v is %d, not %d", s, got, len(m))
	}
	gaps := m.gaps()
	for _, most := range []int{-1, 0, 1, len(gaps) - 1, len(gaps), len(gaps) + 1} {
		if got, want := s.Gaps(most), gaps[:min(max(most, 0), len(gaps))]; !slices.Equal(got, want) {
			t.Fatalf("Gaps(%d) of %v are %v, not %v", most, s, got, want)
		}
	}
	for _, d := range dots {
		if got := s.Has(d); got != m[d] {
			t.Fatalf("%v has %v: %v", s, d, got)
		}
		want, is := s, false
		if err == api.OK && dotWords(d) == api.OK {
			want, is = m.and(model{d: true}).set(), !m[d]
		}
		if got, was := s.Add(d); !same(got, want) || was != is {
			t.Fatalf("%v with %v is %v, %v, not %v, %v", s, d, got, was, want, is)
		}
	}
}

// near are dots around those that small, few and drawn have.
func near() []api.Dot {
	dots := list(-1, 1, 64, 1, 0, 0, lastPeer, -1, 1, top+1, 2, math.MinInt)
	for _, peer := range []int{0, 1, 2, 15, 31, lastPeer} {
		for count := 1; count <= 6; count++ {
			dots = append(dots, dot(peer, count))
		}
	}
	return dots
}

// 6.1, 6.2, 6.3: single sets against the chapter's words, and the same again (R5).
func TestSinglesAgainstWords(t *testing.T) {
	right, other := 0, 0
	for _, s := range slices.Concat(small(), few(), drawn(1, 1500)) {
		if checkWords(s) == api.OK {
			right++
		} else {
			other++
		}
		for range 2 {
			holdSingle(t, s, near())
		}
	}
	if right < 1000 || other < 1000 {
		t.Errorf("%d sets that may be and %d others alone", right, other)
	}
}

// holdPair holds Join and Within of two sets against the chapter's words.
func holdPair(t *testing.T, a, b Set, inA, inB model) {
	t.Helper()
	are := checkWords(a) == api.OK && checkWords(b) == api.OK
	want := Set{}
	if are {
		want = inA.and(inB).set()
	}
	if got := a.Join(b); !same(got, want) {
		t.Fatalf("Join of %v and %v is %v, not %v", a, b, got, want)
	}
	if got, want := a.Within(b), are && inA.in(inB); got != want {
		t.Fatalf("%v is within %v: %v", a, b, got)
	}
}

// 6.2: all pairs of small sets, and pairs of some that are drawn, against the chapter's words.
func TestPairsAgainstWords(t *testing.T) {
	someWrong := wrong()
	all := drawn(2, 150)
	for i := 0; i < len(someWrong); i += 4 {
		all = append(all, someWrong[i].s)
	}
	for _, sets := range [][]Set{small(), all} {
		var models []model
		for _, s := range sets {
			models = append(models, modelOf(s))
		}
		for i, a := range sets {
			for j, b := range sets {
				holdPair(t, a, b, models[i], models[j])
			}
		}
	}
}

// addAll adds dots, one behind the other.
func addAll(t *testing.T, dots []api.Dot) Set {
	t.Helper()
	var s Set
	for i, d := range dots {
		next, is := s.Add(d)
		if next.Check() != api.OK || is == slices.Contains(dots[:i], d) || !next.Has(d) || !s.Within(next) || next.Len() < s.Len() {
			t.Fatalf("%v with %v is %v, %v", s, d, next, is)
		}
		s = next
	}
	return s
}

// orders goes through all orders of dots.
func orders(dots []api.Dot, at int, do func([]api.Dot)) {
	if at == len(dots) {
		do(dots)
	}
	for i := at; i < len(dots); i++ {
		dots[at], dots[i] = dots[i], dots[at]
		orders(dots, at+1, do)
		dots[at], dots[i] = dots[i], dots[at]
	}
}

// 6.4: in whatever order dots are added, the set is the same; some of them twice, too.
func TestAllOrders(t *testing.T) {
	for _, c := range []struct {
		dots []api.Dot
		want Set
	}{
		{list(1, 2, 1, 1), set(list(1, 2), nil)},
		{list(1, 1, 1, 2, 1, 3, 1, 4, 1, 5, 1, 6), set(list(1, 6), nil)},
		{list(1, 1, 1, 2, 1, 4, 1, 5, 1, 7, 1, 8), set(list(1, 2), list(1, 4, 1, 5, 1, 7, 1, 8))},
		{list(0, 1, lastPeer, 1, 0, 2, lastPeer, 2, 0, 3, lastPeer, 3), set(list(0, 3, lastPeer, 3), nil)},
		{list(0, 1, 1, 2, 0, 3, 1, 4, 2, 1, 2, 3), set(list(0, 1, 2, 1), list(0, 3, 1, 2, 1, 4, 2, 3))},
		{list(3, top, 3, top-1, 3, 1, 3, 2, 3, 1, 3, top), set(list(3, 2), list(3, top-1, 3, top))},
	} {
		orders(c.dots, 0, func(dots []api.Dot) {
			if got := addAll(t, dots); !same(got, c.want) {
				t.Fatalf("%v come to %v, not %v", dots, got, c.want)
			}
		})
	}
}

// 6.4: many dots, rising, falling and from the midst on, come to the same set; joined of two halves, too.
func TestManyDots(t *testing.T) {
	const many = 300
	var rising []api.Dot
	for count := 1; count <= many; count++ {
		if count != 100 && count != 200 {
			rising = append(rising, dot(count%2*lastPeer, count))
		}
	}
	m := model{}
	for _, d := range rising {
		m[d] = true
	}
	want := m.set()
	falling := slices.Clone(rising)
	slices.Reverse(falling)
	for _, dots := range [][]api.Dot{rising, falling, slices.Concat(rising[150:], falling[100:], rising)} {
		if got := addAll(t, dots); !same(got, want) {
			t.Errorf("%v, not %v", got, want)
		}
	}
	if got := addAll(t, rising[:140]).Join(addAll(t, falling[:170])); !same(got, want) {
		t.Errorf("two halves come to %v, not %v", got, want)
	}
}

// 6.2, 6.4: Join does not hang on the order, nor on how often; it is the least set that both are within.
func TestJoinLeast(t *testing.T) {
	all := append(edges(), drawn(3, 20)...)
	for i := 0; i < 256; i += 17 {
		all = append(all, small()[i])
	}
	all = slices.DeleteFunc(all, func(s Set) bool { return checkWords(s) != api.OK })
	for _, a := range all {
		if !same(a.Join(a), a) || !same(a.Join(Set{}), a) || !same(Set{}.Join(a), a) || !a.Within(a) {
			t.Fatalf("%v with itself or none", a)
		}
		for _, b := range all {
			join := a.Join(b)
			if join.Check() != api.OK || !same(join, b.Join(a)) || !same(join.Join(b), join) || !a.Within(join) || !b.Within(join) || a.Within(b) != same(join, b) {
				t.Fatalf("%v and %v: %v", a, b, join)
			}
			for _, c := range all {
				if (a.Within(c) && b.Within(c)) != join.Within(c) || !same(join.Join(c), a.Join(b.Join(c))) {
					t.Fatalf("%v and %v: %v, but %v", a, b, join, c)
				}
			}
		}
	}
}

// inRoom is a set in greater memory, and that memory, with dots around its lists that nobody may touch.
func inRoom(s Set) (inner Set, room []api.Dot) {
	room = slices.Concat(list(7, 77), s.Base, list(8, 88), s.Extra, list(9, 99, 9, 100))
	extra := len(s.Base) + 2
	return set(room[1:1+len(s.Base)], room[extra:extra+len(s.Extra)]), room
}

// callAll calls each function with two sets, and hands out what they answer as lists.
func callAll(a, b Set) [][]api.Dot {
	for _, s := range []Set{a, b} {
		s.Check()
		s.Len()
		s.Has(dot(2, 2))
	}
	a.Within(b)
	b.Within(a)
	sets := []Set{a.Join(b), b.Join(a), a.Join(a), a.Join(Set{}), Set{}.Join(b)}
	for _, d := range slices.Concat(list(2, 1, 2, 2, 0, 1, lastPeer, 9, 64, 1, 0, 0), a.Base, a.Extra[:min(2, len(a.Extra))]) {
		with, _ := a.Add(d)
		sets = append(sets, with)
	}
	lists := [][]api.Dot{a.Gaps(3), a.Gaps(5), b.Gaps(3)}
	for _, s := range sets {
		lists = append(lists, s.Base, s.Extra)
	}
	return lists
}

// R4: no set that is handed in is changed, nor what lies around its lists, and what is handed out shares no memory with it or with one another.
func TestMemory(t *testing.T) {
	all := slices.Concat(edges(), drawn(4, 25))
	for _, c := range wrong() {
		all = append(all, c.s)
	}
	for i, s := range all {
		for _, other := range []Set{s, all[(i+1)%len(all)], all[(i*7+3)%len(all)], {}, set(list(2, 1), list(0, 3, 2, 3))} {
			a, roomA := inRoom(s)
			b, roomB := inRoom(other)
			wantA, wantB := slices.Clone(roomA), slices.Clone(roomB)
			answers, again := callAll(a, b), callAll(a, b)
			if !slices.Equal(roomA, wantA) || !slices.Equal(roomB, wantB) {
				t.Fatalf("%v and %v are now %v and %v", wantA, wantB, roomA, roomB)
			}
			for i, answer := range answers {
				clear(answer[:cap(answer)])
				if !slices.EqualFunc(answers[i+1:], again[i+1:], slices.Equal) {
					t.Fatalf("of %v and %v: answers share memory", s, other)
				}
			}
			if !slices.Equal(roomA, wantA) || !slices.Equal(roomB, wantB) {
				t.Fatalf("what is handed out is of the memory of %v or %v", s, other)
			}
			if !slices.EqualFunc(callAll(a, b), again, slices.Equal) {
				t.Fatalf("of %v and %v: something else behind a change of what was handed out", s, other)
			}
		}
	}
}

// R4: what was handed in may be changed behind the call, and the answer stays.
func TestNotKept(t *testing.T) {
	for _, s := range slices.Concat(edges(), drawn(5, 60)) {
		a, roomA := inRoom(s)
		b, roomB := inRoom(set(list(2, 1), list(0, 3, 2, 3)))
		answers := callAll(a, b)
		want := slices.Clone(answers)
		for i, answer := range want {
			want[i] = slices.Clone(answer)
		}
		clear(roomA)
		clear(roomB)
		if !slices.EqualFunc(answers, want, slices.Equal) {
			t.Fatalf("of %v something was kept", s)
		}
	}
}

// R3: an empty list is the same, whether it is nil or not.
func TestEmptyLists(t *testing.T) {
	empty := [][]api.Dot{nil, {}, make([]api.Dot, 0, 4), list(1, 1)[:0]}
	for _, base := range empty {
		for _, extra := range empty {
			none := set(base, extra)
			with, is := none.Add(dot(4, 1))
			if none.Check() != api.OK || none.Len() != 0 || none.Has(dot(0, 1)) || none.Has(api.Dot{}) || len(none.Gaps(9)) != 0 || !is || !same(with, set(list(4, 1), nil)) {
				t.Errorf("of %#v", none)
			}
			for _, s := range edges() {
				if !same(none.Join(s), s) || !same(s.Join(none), s) || !none.Within(s) || s.Within(none) != (s.Len() == 0) {
					t.Errorf("of %#v and %v", none, s)
				}
			}
		}
	}
}

// R1: long lists come to an end, those of sets that may be and those of others.
func TestLongLists(t *testing.T) {
	var odd, even []api.Dot
	for count := 3; count < 1<<18; count += 2 {
		odd, even = append(odd, dot(9, count)), append(even, dot(9, count-1))
	}
	s, u := set(list(9, 1), odd), set(nil, even)
	last := odd[len(odd)-1].Count
	if s.Check() != api.OK || s.Len() != 1+len(odd) || !s.Has(dot(9, last)) || s.Has(dot(9, last-1)) || !slices.Equal(s.Gaps(math.MaxInt), even) {
		t.Error("of a set of many dots")
	}
	if whole := set(list(9, last), nil); !same(s.Join(u), whole) || !same(u.Join(s), whole) || !s.Within(whole) || !u.Within(whole) || s.Within(u) || whole.Within(s) {
		t.Error("of two sets that fill each other's gaps")
	}
	long := make([]api.Dot, 1<<18)
	for i := range long {
		long[i] = dot(i, 2)
	}
	for _, s := range []Set{set(long, nil), set(nil, long), set(long, long)} {
		if with, is := s.Add(dot(1, 1)); s.Check() != api.ErrPeer || s.Len() != 0 || s.Has(dot(0, 2)) || len(s.Gaps(9)) != 0 || is || !same(with, s) {
			t.Error("of a long list that may not be")
		}
	}
}

// R5: many at once get the same answers.
func TestAtOnce(t *testing.T) {
	shared := drawn(6, 200)
	var all sync.WaitGroup
	for range 8 {
		all.Go(func() {
			for i, a := range shared {
				b := shared[len(shared)-1-i]
				want := Set{}
				if checkWords(a) == api.OK && checkWords(b) == api.OK {
					want = modelOf(a).and(modelOf(b)).set()
				}
				if !same(a.Join(b), want) || a.Check() != checkWords(a) || !slices.Equal(a.Gaps(math.MaxInt), modelOf(a).gaps()) {
					t.Errorf("of %v and %v something else at once", a, b)
				}
			}
		})
	}
	all.Wait()
}

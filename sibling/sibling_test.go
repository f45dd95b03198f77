package sibling

import (
	"math"
	"slices"
	"sync"
	"testing"

	"hearsay/api"
)

// 7.1: versions that may be, and others, written down.
func TestCheckTable(t *testing.T) {
	for _, l := range edges() {
		for _, v := range l {
			if e := Check(v); e != api.OK {
				t.Errorf("Check of %v is %v", v, e)
			}
		}
	}
	for _, c := range brokenVersions() {
		if e := Check(c.v); e != c.err {
			t.Errorf("Check of %v is %v, not %v", c.v, e, c.err)
		}
	}
}

// 7.1: leaves that may be, and others, written down.
func TestCheckLeafTable(t *testing.T) {
	for _, l := range edges() {
		if e := CheckLeaf(l); e != api.OK {
			t.Errorf("CheckLeaf of %v is %v", l, e)
		}
	}
	for _, c := range brokenLeaves() {
		if e := CheckLeaf(c.l); e != c.err {
			t.Errorf("CheckLeaf of %v is %v, not %v", c.l, e, c.err)
		}
	}
}

// 7.1: the Count just ahead of the Dot's may be in its Past, the Dot's own may not.
func TestCheckBesideDot(t *testing.T) {
	for _, peer := range []int{0, 1, 31, lastPeer} {
		for _, count := range []int{1, 2, 3, 1000, top - 1, top} {
			for past := max(1, count-2); past <= min(top, count+2); past++ {
				want := api.OK
				if past >= count {
					want = api.ErrOrder
				}
				v := live(peer, count, "x", peer, past)
				if got := Check(v); got != want {
					t.Errorf("Check of %v is %v, not %v", v, got, want)
				}
			}
		}
	}
}

// 7.1: the data's size is told in bytes, up to the limit and one past it.
func TestCheckData(t *testing.T) {
	for size := range 60 {
		want, wantDead := api.OK, api.ErrForm
		if size > 48 {
			want, wantDead = api.ErrSize, api.ErrSize
		}
		if size == 0 {
			wantDead = api.OK
		}
		v, gone := live(3, 2, bytesOf(size), 3, 1), withData(dead(3, 2, 3, 1), bytesOf(size))
		if Check(v) != want || Check(gone) != wantDead {
			t.Errorf("Check of %d bytes is %v, Dead %v", size, Check(v), Check(gone))
		}
	}
}

// 7.1: who covers whom, written down: by the Past of the one and the Dot of the other one alone.
func TestCoversTable(t *testing.T) {
	x := live(0, 2, "x", 0, 1)
	for _, c := range []struct {
		a, b api.Version
		want bool
	}{
		{live(1, 1, "o", 0, 2), x, true}, {live(1, 1, "o", 0, 3), x, true}, {live(1, 1, "o", 0, top), x, true}, {dead(1, 1, 0, 2), x, true}, {live(1, 1, "o", 0, 2, 2, 7), x, true}, {live(3, 1, "", 0, 2, 1, 1), x, true}, {live(0, 3, "", 0, 2), x, true},
		{live(1, 1, "o"), x, false}, {live(1, 1, "o", 0, 1), x, false}, {live(1, 3, "o", 1, 2, 2, 2), x, false}, {x, x, false}, {x, live(1, 1, "o", 0, 2), false}, {x, live(0, 1, ""), true}, {x, dead(0, 1), true}, {x, live(0, 3, ""), false},
		{live(1, 1, "", lastPeer, top), live(lastPeer, top, ""), true}, {live(1, 1, "", lastPeer, top-1), live(lastPeer, top, ""), false}, {live(1, 1, "", 0, 1), live(0, 1, ""), true},
		// A Past that is no vector has nothing; a Dot that may not be, nobody has.
		{live(1, 1, "", 0, 2, 64, 1), x, false}, {live(1, 1, "", 0, 2, 0, 2), x, false}, {live(1, 1, "", 0, 2, 1, 0), x, false}, {live(1, 1, "", 3, 1, 0, 2), x, false}, {live(1, 1, "", 0, top+1), x, false},
		{live(1, 1, "", 0, 2), live(0, 0, ""), false}, {live(1, 1, "", 0, 2), live(0, -1, ""), false}, {live(1, 1, "", 0, top), live(0, top+1, ""), false}, {live(1, 1, "", -1, 1), live(-1, 1, ""), false}, {live(1, 1, "", 64, 1), live(64, 1, ""), false}, {live(1, 1, "", 0, 2), live(math.MinInt, math.MinInt, ""), false}, {live(1, 1, "", 0, 2), live(math.MaxInt, math.MaxInt, ""), false}, {api.Version{}, api.Version{}, false},
	} {
		if got := Covers(c.a, c.b); got != c.want {
			t.Errorf("%v covers %v: %v", c.a, c.b, got)
		}
	}
}

// 7.2: what leaves stand for, written down.
func TestCoverTable(t *testing.T) {
	var ones, tops []api.Dot
	for peer := range 64 {
		ones, tops = append(ones, dot(peer, 1)), append(tops, dot(peer, top))
	}
	for _, c := range []struct {
		l    []api.Version
		want []api.Dot
	}{
		{nil, nil}, {leaf(), nil}, {leaf(live(0, 1, "x")), list(0, 1)}, {leaf(dead(lastPeer, top)), list(lastPeer, top)}, {leaf(live(0, 3, "x")), list(0, 3)},
		{leaf(live(1, 1, "o", 0, 1)), list(0, 1, 1, 1)}, {leaf(live(0, 2, "y", 0, 1)), list(0, 2)}, {leaf(live(0, 2, "y", 0, 1), live(1, 1, "o", 0, 1)), list(0, 2, 1, 1)}, {leaf(live(0, 9, "", 1, 2), live(1, 7, "", 0, 8)), list(0, 9, 1, 7)}, {leaf(dead(3, 1, 0, 2, 5, 1), live(5, 4, "", 0, 1, 9, 9), live(8, 1, "", 2, 2, 5, 2)), list(0, 2, 2, 2, 3, 1, 5, 4, 8, 1, 9, 9)},
		{allPeers(func(peer int) api.Version { return live(peer, 1, "") }), ones}, {allPeers(func(peer int) api.Version { return dead(peer, top) }), tops},
	} {
		if got := Cover(c.l); !slices.Equal(got, c.want) {
			t.Errorf("Cover of %v is %v, not %v", c.l, got, c.want)
		}
	}
}

// change is a Write, or an Erase, and what is due.
type change struct {
	l    []api.Version
	d    api.Dot
	data string
	want []api.Version
	err  api.Errno
}

// 7.2: leaves, written over, written down.
func TestWriteTable(t *testing.T) {
	x := leaf(live(0, 1, "x"))
	two := leaf(live(0, 4, "y", 0, 1, 2, 3), dead(1, 2, 0, 3))
	full := allPeers(func(peer int) api.Version { return live(peer, top-1, "") })
	wrong, cover := leaf(live(1, 1, ""), live(0, 1, "")), leaf(live(0, 1, ""), live(1, 1, "", 0, 1))
	for _, c := range []change{
		{nil, dot(0, 1), "x", x, api.OK}, {leaf(), dot(lastPeer, top), "", leaf(live(lastPeer, top, "")), api.OK}, {nil, dot(0, 7), bytesOf(48), leaf(live(0, 7, bytesOf(48))), api.OK}, {nil, dot(0, 1), "\x00\xff", leaf(live(0, 1, "\x00\xff")), api.OK},
		{x, dot(1, 1), "y", leaf(live(1, 1, "y", 0, 1)), api.OK}, {x, dot(0, 2), "x", leaf(live(0, 2, "x", 0, 1)), api.OK}, {x, dot(0, 9), "", leaf(live(0, 9, "", 0, 1)), api.OK}, {leaf(dead(0, 1)), dot(0, 2), "back", leaf(live(0, 2, "back", 0, 1)), api.OK}, {leaf(live(0, top-1, "")), dot(0, top), "", leaf(live(0, top, "", 0, top-1)), api.OK},
		// Just behind what Cover has, by a Dot and by a Past; by peers that are not there yet.
		{two, dot(0, 5), "n", leaf(live(0, 5, "n", 0, 4, 1, 2, 2, 3)), api.OK}, {two, dot(1, 3), "n", leaf(live(1, 3, "n", 0, 4, 1, 2, 2, 3)), api.OK}, {two, dot(2, 4), "n", leaf(live(2, 4, "n", 0, 4, 1, 2, 2, 3)), api.OK}, {two, dot(3, 1), "n", leaf(live(3, 1, "n", 0, 4, 1, 2, 2, 3)), api.OK}, {two, dot(lastPeer, top), "n", leaf(live(lastPeer, top, "n", 0, 4, 1, 2, 2, 3)), api.OK}, {full, dot(31, top), "", leaf(api.Version{Dot: dot(31, top), Past: coverWords(full)}), api.OK},
		// A dot that Cover has: the first one, the last one, one of a Past alone.
		{x, dot(0, 1), "y", nil, api.ErrOrder}, {two, dot(0, 1), "", nil, api.ErrOrder}, {two, dot(0, 4), "", nil, api.ErrOrder}, {two, dot(1, 1), "", nil, api.ErrOrder}, {two, dot(1, 2), "", nil, api.ErrOrder}, {two, dot(2, 1), "", nil, api.ErrOrder}, {two, dot(2, 3), bytesOf(48), nil, api.ErrOrder}, {full, dot(lastPeer, top-1), "", nil, api.ErrOrder}, {leaf(dead(0, 1)), dot(0, 1), "", nil, api.ErrOrder},
		// Dots that may not be, too much data, more than one thing.
		{x, dot(-1, 1), "", nil, api.ErrPeer}, {x, dot(64, 1), "", nil, api.ErrPeer}, {x, dot(0, 0), "", nil, api.ErrCount}, {x, dot(0, top+1), "", nil, api.ErrCount}, {nil, dot(64, 0), "", nil, api.ErrPeer}, {nil, api.Dot{}, "", nil, api.ErrCount}, {x, dot(math.MinInt, math.MaxInt), "", nil, api.ErrPeer}, {x, dot(3, math.MaxInt), "", nil, api.ErrCount},
		{x, dot(1, 1), bytesOf(49), nil, api.ErrSize}, {nil, dot(1, 1), bytesOf(5000), nil, api.ErrSize}, {x, dot(0, 1), bytesOf(49), nil, api.ErrSize}, {x, dot(64, 1), bytesOf(49), nil, api.ErrPeer}, {x, dot(0, 0), bytesOf(49), nil, api.ErrCount},
		// A leaf that may not be, alone and with all else.
		{wrong, dot(3, 1), "", nil, api.ErrOrder}, {cover, dot(3, 1), "", nil, api.ErrForm}, {cover, dot(64, 1), "", nil, api.ErrForm}, {cover, dot(0, 0), "", nil, api.ErrForm}, {cover, dot(3, 1), bytesOf(49), nil, api.ErrForm}, {cover, dot(0, 1), "", nil, api.ErrForm}, {cover, dot(0, 1), bytesOf(49), nil, api.ErrForm}, {leaf(live(0, 1, bytesOf(49))), dot(64, 1), "", nil, api.ErrSize}, {make([]api.Version, 65), dot(0, 0), "", nil, api.ErrSize},
	} {
		if got, err := Write(c.l, c.d, c.data); !same(got, c.want) || err != c.err {
			t.Errorf("Write of %v, %v, %q is %v, %v, not %v, %v", c.l, c.d, c.data, got, err, c.want, c.err)
		}
	}
}

// 7.2: leaves, deleted, written down.
func TestEraseTable(t *testing.T) {
	x := leaf(live(0, 1, "x"))
	two := leaf(live(0, 4, "y", 0, 1, 2, 3), dead(1, 2, 0, 3))
	gone := leaf(dead(0, 4, 2, 3), dead(1, 2))
	oneLive := allPeers(func(peer int) api.Version { return api.Version{Dot: dot(peer, 1), Dead: peer != lastPeer} })
	cover := leaf(live(0, 1, ""), live(1, 1, "", 0, 1))
	for _, c := range []change{
		{x, dot(1, 1), "", leaf(dead(1, 1, 0, 1)), api.OK}, {x, dot(0, 2), "", leaf(dead(0, 2, 0, 1)), api.OK}, {leaf(live(0, 1, "")), dot(lastPeer, top), "", leaf(dead(lastPeer, top, 0, 1)), api.OK}, {leaf(live(0, top-1, "")), dot(0, top), "", leaf(dead(0, top, 0, top-1)), api.OK},
		{two, dot(0, 5), "", leaf(dead(0, 5, 0, 4, 1, 2, 2, 3)), api.OK}, {two, dot(1, 3), "", leaf(dead(1, 3, 0, 4, 1, 2, 2, 3)), api.OK}, {two, dot(2, 4), "", leaf(dead(2, 4, 0, 4, 1, 2, 2, 3)), api.OK}, {two, dot(3, 1), "", leaf(dead(3, 1, 0, 4, 1, 2, 2, 3)), api.OK}, {oneLive, dot(0, 2), "", leaf(api.Version{Dot: dot(0, 2), Past: coverWords(oneLive), Dead: true}), api.OK},
		// Nothing is live; be the dot there already or not.
		{nil, dot(0, 1), "", nil, api.ErrNone}, {leaf(), dot(lastPeer, top), "", nil, api.ErrNone}, {gone, dot(3, 1), "", nil, api.ErrNone}, {gone, dot(0, 4), "", nil, api.ErrNone}, {gone, dot(2, 1), "", nil, api.ErrNone}, {leaf(dead(0, 1)), dot(0, 1), "", nil, api.ErrNone}, {oneLive[:63], dot(0, 2), "", nil, api.ErrNone},
		// A dot that Cover has.
		{x, dot(0, 1), "", nil, api.ErrOrder}, {two, dot(0, 1), "", nil, api.ErrOrder}, {two, dot(0, 4), "", nil, api.ErrOrder}, {two, dot(1, 1), "", nil, api.ErrOrder}, {two, dot(1, 2), "", nil, api.ErrOrder}, {two, dot(2, 3), "", nil, api.ErrOrder}, {oneLive, dot(7, 1), "", nil, api.ErrOrder},
		// Dots that may not be, more than one thing; a leaf that may not be, alone and with all else.
		{x, dot(-1, 1), "", nil, api.ErrPeer}, {x, dot(64, 1), "", nil, api.ErrPeer}, {x, dot(0, 0), "", nil, api.ErrCount}, {x, dot(0, top+1), "", nil, api.ErrCount}, {nil, dot(64, 0), "", nil, api.ErrPeer}, {nil, api.Dot{}, "", nil, api.ErrCount}, {gone, dot(0, 0), "", nil, api.ErrCount}, {gone, dot(64, 1), "", nil, api.ErrPeer}, {x, dot(math.MaxInt, 1), "", nil, api.ErrPeer}, {x, dot(3, math.MinInt), "", nil, api.ErrCount},
		{leaf(live(1, 1, ""), live(0, 1, "")), dot(3, 1), "", nil, api.ErrOrder}, {cover, dot(3, 1), "", nil, api.ErrForm}, {cover, dot(64, 1), "", nil, api.ErrForm}, {cover, dot(0, 0), "", nil, api.ErrForm}, {cover, dot(0, 1), "", nil, api.ErrForm}, {leaf(dead(0, 1), dead(1, 1, 0, 1)), dot(64, 1), "", nil, api.ErrForm}, {leaf(dead(0, 1, 64, 1)), dot(0, 0), "", nil, api.ErrPeer}, {make([]api.Version, 65), dot(0, 0), "", nil, api.ErrSize},
	} {
		if got, err := Erase(c.l, c.d); !same(got, c.want) || err != c.err {
			t.Errorf("Erase of %v, %v is %v, %v, not %v, %v", c.l, c.d, got, err, c.want, c.err)
		}
	}
}

// 7.3: the live ones, in order, written down; of lists that are no leaves, too.
func TestLiveTable(t *testing.T) {
	x, y, none := live(0, 1, "x", 5, 1), live(2, 7, "y"), live(3, 1, "")
	gone, full := dead(1, 9, 5, 2), bytesOf(48)
	for _, c := range []struct{ l, want []api.Version }{
		{nil, nil}, {leaf(), nil}, {leaf(x), leaf(x)}, {leaf(gone), nil}, {leaf(gone, dead(2, 1)), nil}, {leaf(none), leaf(none)}, {leaf(x, gone, y, none), leaf(x, y, none)}, {leaf(x, y), leaf(x, y)}, {leaf(gone, y), leaf(y)}, {leaf(live(0, 1, full), gone), leaf(live(0, 1, full))},
		{leaf(y, x, gone, x), leaf(y, x, x)}, {leaf(gone, gone, live(64, 0, "")), leaf(live(64, 0, ""))}, {leaf(live(0, 1, bytesOf(49)), withData(gone, "d")), leaf(live(0, 1, bytesOf(49)))}, {make([]api.Version, 70), make([]api.Version, 70)},
	} {
		if got := Live(c.l); !same(got, c.want) {
			t.Errorf("Live of %v is %v, not %v", c.l, got, c.want)
		}
	}
}

// 7.3: which of two wins, written down, there and back.
func TestWinsTable(t *testing.T) {
	for _, c := range []struct {
		a, b        api.Version
		there, back bool
	}{
		{live(0, 2, "y", 0, 1), live(1, 1, "o", 0, 1), true, false}, {live(1, 1, ""), live(0, 1, ""), true, false}, {live(lastPeer, 1, ""), live(0, 1, "x"), true, false}, {live(0, top, ""), live(lastPeer, top-1, "x"), true, false}, {live(0, 2, ""), live(0, 1, ""), true, false}, {live(lastPeer, top, ""), live(62, top, ""), true, false},
		// One that is live, ahead of one that is Dead, whatever their Dots are, and be its Data none.
		{live(0, 1, "x"), dead(lastPeer, top), true, false}, {live(0, 1, ""), dead(0, 2), true, false}, {live(0, 1, ""), dead(1, 1), true, false}, {live(0, 1, ""), dead(0, 1), true, false}, {live(5, 9, ""), dead(0, 1), true, false},
		{dead(0, 2), dead(1, 1), true, false}, {dead(1, 1), dead(0, 1), true, false}, {dead(0, top), dead(lastPeer, 1), true, false},
		// Against itself, and of one Dot: none wins, whatever the Data and the Past are.
		{live(0, 1, "x"), live(0, 1, "x"), false, false}, {dead(3, 4), dead(3, 4), false, false}, {live(0, 2, "x"), live(0, 2, "yy", 0, 1), false, false}, {api.Version{}, api.Version{}, false, false}, {live(0, 1, "z", 1, 9), live(0, 1, "a"), false, false},
		// The one that covers does not win by that.
		{live(0, 2, "x"), live(1, 1, "", 0, 2), true, false},
	} {
		if there, back := Wins(c.a, c.b), Wins(c.b, c.a); there != c.there || back != c.back {
			t.Errorf("%v wins against %v: %v, back %v", c.a, c.b, there, back)
		}
	}
}

// 7.3: what readers see, written down; of lists that are no leaves, too.
func TestWinnerTable(t *testing.T) {
	for _, c := range []struct {
		l    []api.Version
		want int // its place; below 0: none
	}{
		{nil, -1}, {leaf(), -1}, {leaf(dead(0, 1)), -1}, {leaf(dead(0, 1), dead(1, 9), dead(lastPeer, top)), -1}, {leaf(live(0, 1, "x")), 0}, {leaf(live(0, 1, "")), 0},
		{leaf(live(0, 2, "y", 0, 1), live(1, 1, "o", 0, 1)), 0}, {leaf(live(0, 1, "a"), live(1, 1, "b")), 1}, {leaf(live(0, 3, "a"), live(1, 3, "b"), live(2, 2, "c"), live(lastPeer, 1, "d")), 1}, {leaf(live(0, 1, "a"), live(1, 2, "b"), live(2, 3, "c")), 2}, {leaf(live(0, 5, ""), live(1, 9, "x"), live(2, 9, ""), live(3, 8, "")), 2},
		// Beside Dead ones of greater Counts, ahead and behind.
		{leaf(live(0, 1, "x"), dead(1, 2)), 0}, {leaf(dead(0, top), live(1, 1, "")), 1}, {leaf(dead(0, 9), live(1, 1, ""), dead(2, 9), live(3, 1, ""), dead(4, 9)), 3},
		// Of equal Dots the first one, of which one is Dead the live one; peers that fall.
		{leaf(live(0, 1, "a"), live(0, 1, "b")), 0}, {leaf(live(0, 1, "b"), live(0, 1, "a", 5, 5), live(0, 1, "")), 0}, {leaf(live(0, 1, "c"), live(1, 2, "a"), live(1, 2, "b"), live(0, 2, "d")), 1}, {leaf(dead(0, 1), live(0, 1, "b"), live(0, 1, "c")), 1}, {leaf(live(3, 1, ""), live(2, 1, ""), live(3, 1, "x")), 0}, {leaf(live(2, 1, ""), live(3, 1, "")), 1}, {leaf(live(0, 1, ""), live(0, 2, "")), 1},
		{allPeers(func(peer int) api.Version { return live(peer, top-peer/2, "") }), 1}, {allPeers(func(peer int) api.Version { return live(peer, 1, "") }), lastPeer}, {make([]api.Version, 100), 0},
	} {
		want, is := api.Version{}, c.want >= 0
		if is {
			want = c.l[c.want]
		}
		if got, ok := Winner(c.l); !sameVersion(got, want) || ok != is {
			t.Errorf("Winner of %v is %v, %v, not %v, %v", c.l, got, ok, want, is)
		}
	}
}

// 7.4: what two leaves come to, written down, there and back.
func TestSyncTable(t *testing.T) {
	x, o, y := live(0, 1, "x"), live(1, 1, "o", 0, 1), live(0, 2, "y", 0, 1)
	many := allPeers(func(peer int) api.Version { return live(peer, 2, "m") })
	over, _ := writeWords(many, dot(5, 3), "over")
	some := slices.Concat(many[:3], many[9:12])
	rest := slices.Concat(many[3:9], many[12:])
	for _, c := range []struct{ a, b, there, back []api.Version }{
		{nil, nil, nil, nil}, {leaf(), nil, nil, nil}, {leaf(x), nil, leaf(x), leaf(x)}, {leaf(x), leaf(x), leaf(x), leaf(x)}, {many, nil, many, many}, {many, many, many, many}, {some, rest, many, many}, {many[:40], many[20:], many, many},
		// The chapter's; side by side; with one that covers all or some.
		{leaf(o), leaf(x), leaf(o), leaf(o)}, {leaf(o), leaf(y), leaf(y, o), leaf(y, o)}, {leaf(y), leaf(x), leaf(y), leaf(y)}, {many, over, over, over}, {leaf(live(0, 1, "a"), live(1, 1, "b"), live(2, 1, "c")), leaf(live(3, 1, "d", 0, 1, 2, 1)), leaf(live(1, 1, "b"), live(3, 1, "d", 0, 1, 2, 1)), leaf(live(1, 1, "b"), live(3, 1, "d", 0, 1, 2, 1))},
		{leaf(live(0, 1, "a"), live(1, 1, "b")), leaf(live(0, 2, "c", 0, 1)), leaf(live(0, 2, "c", 0, 1), live(1, 1, "b")), leaf(live(0, 2, "c", 0, 1), live(1, 1, "b"))}, {leaf(x), leaf(dead(1, 1, 0, 1)), leaf(dead(1, 1, 0, 1)), leaf(dead(1, 1, 0, 1))}, {leaf(x), leaf(dead(1, 1)), leaf(x, dead(1, 1)), leaf(x, dead(1, 1))}, {leaf(x), leaf(live(1, 1, "", 0, 9)), leaf(live(1, 1, "", 0, 9)), leaf(live(1, 1, "", 0, 9))}, {leaf(live(0, 3, "a")), leaf(live(1, 1, "", 0, 2)), leaf(live(0, 3, "a"), live(1, 1, "", 0, 2)), leaf(live(0, 3, "a"), live(1, 1, "", 0, 2))},
		// Each covers some of the other one's; one that is covered covers, too; two that cover one another both go.
		{leaf(live(0, 1, "a", 2, 1), live(1, 1, "b")), leaf(live(2, 1, "c"), live(3, 1, "d", 1, 1)), leaf(live(0, 1, "a", 2, 1), live(3, 1, "d", 1, 1)), leaf(live(0, 1, "a", 2, 1), live(3, 1, "d", 1, 1))}, {leaf(live(0, 1, "a"), live(3, 1, "d", 1, 1)), leaf(live(1, 1, "b", 0, 1)), leaf(live(3, 1, "d", 1, 1)), leaf(live(3, 1, "d", 1, 1))}, {leaf(live(0, 1, "a", 1, 1)), leaf(live(1, 1, "b", 0, 1)), nil, nil},
		// Two of one peer are left: the one of the greater Count, be it Dead or live; it is no matter that the other one would win.
		{leaf(x), leaf(live(0, 2, "n")), leaf(live(0, 2, "n")), leaf(live(0, 2, "n"))}, {leaf(x), leaf(dead(0, 2)), leaf(dead(0, 2)), leaf(dead(0, 2))}, {leaf(dead(0, 1)), leaf(live(0, top, "")), leaf(live(0, top, "")), leaf(live(0, top, ""))}, {leaf(live(0, 5, "", 0, 3)), leaf(live(0, 4, "", 1, 1)), leaf(live(0, 5, "", 0, 3)), leaf(live(0, 5, "", 0, 3))}, {leaf(live(lastPeer, 2, "")), leaf(live(0, 1, ""), live(lastPeer, 1, "")), leaf(live(0, 1, ""), live(lastPeer, 2, "")), leaf(live(0, 1, ""), live(lastPeer, 2, ""))},
		// What is left out for its peer's later one covers nonetheless.
		{leaf(live(0, 1, "", 3, 1)), leaf(live(0, 2, ""), live(3, 1, "")), leaf(live(0, 2, "")), leaf(live(0, 2, ""))},
		// Of one Dot the first leaf's: other Data, another Past, Dead; what the other one covers goes.
		{leaf(x), leaf(live(0, 1, "other")), leaf(x), leaf(live(0, 1, "other"))}, {leaf(x), leaf(dead(0, 1)), leaf(x), leaf(dead(0, 1))}, {leaf(x), leaf(live(0, 1, "x", 5, 5)), leaf(x), leaf(live(0, 1, "x", 5, 5))}, {leaf(x, live(1, 1, "b")), leaf(live(0, 1, "n", 1, 1)), leaf(x), leaf(live(0, 1, "n", 1, 1))},
	} {
		if got := Sync(c.a, c.b); !same(got, c.there) {
			t.Errorf("Sync of %v and %v is %v, not %v", c.a, c.b, got, c.there)
		}
		if got := Sync(c.b, c.a); !same(got, c.back) {
			t.Errorf("Sync of %v and %v is %v, not %v", c.b, c.a, got, c.back)
		}
	}
}

// 7.1, 7.2, 7.4: a leaf that may not be stands for nothing, is not changed and not synced, on either side.
func TestLeavesThatMayNotBe(t *testing.T) {
	rights := append(edges(), small(2, 0, 1)...)
	for i, c := range brokenLeaves() {
		if len(Cover(c.l)) != 0 || len(Sync(c.l, c.l)) != 0 || len(Sync(c.l, nil)) != 0 || len(Sync(nil, c.l)) != 0 {
			t.Errorf("of %v: %v, %v", c.l, Cover(c.l), Sync(c.l, c.l))
		}
		for _, d := range list(9, 9, 0, 1, 1, 1, 0, 2, 64, 1, 0, 0, -1, -1) {
			for _, data := range []string{"", "x", bytesOf(48), bytesOf(49)} {
				if got, err := Write(c.l, d, data); len(got) != 0 || err != c.err {
					t.Errorf("Write of %v, %v, %q is %v, %v", c.l, d, data, got, err)
				}
			}
			if got, err := Erase(c.l, d); len(got) != 0 || err != c.err {
				t.Errorf("Erase of %v, %v is %v, %v", c.l, d, got, err)
			}
		}
		for _, r := range rights {
			if len(Sync(c.l, r)) != 0 || len(Sync(r, c.l)) != 0 {
				t.Errorf("of %v and %v: %v and %v", c.l, r, Sync(c.l, r), Sync(r, c.l))
			}
		}
		if other := brokenLeaves()[(i*7+1)%len(brokenLeaves())].l; len(Sync(c.l, other)) != 0 {
			t.Errorf("of %v and %v: %v", c.l, other, Sync(c.l, other))
		}
	}
}

// 7.4: lists that are the same, and lists that differ in one thing alone; of lists that are no leaves, too.
func TestSameTable(t *testing.T) {
	base := leaf(live(0, 2, "x", 0, 1, 5, 1), dead(3, 1), live(4, 1, ""))
	for _, l := range append(edges(), base, leaf(base[2], base[0]), make([]api.Version, 70), leaf(live(64, 0, bytesOf(49), 3, 1, 2, 0))) {
		if copied := copyOf(l); !Same(l, l) || !Same(l, copied) || !Same(copied, l) {
			t.Errorf("%v is not the same as itself", l)
		}
	}
	with := func(at int, change func(v *api.Version)) []api.Version {
		l := copyOf(base)
		change(&l[at])
		return l
	}
	for i, other := range [][]api.Version{
		with(0, func(v *api.Version) { v.Dot.Peer = 1 }), with(0, func(v *api.Version) { v.Dot.Count = 3 }), with(2, func(v *api.Version) { v.Dot.Count = 2 }), with(2, func(v *api.Version) { v.Dot.Peer = 5 }),
		with(0, func(v *api.Version) { v.Past = nil }), with(0, func(v *api.Version) { v.Past = list(0, 1) }), with(0, func(v *api.Version) { v.Past = list(0, 1, 5, 2) }), with(0, func(v *api.Version) { v.Past = list(0, 1, 6, 1) }), with(0, func(v *api.Version) { v.Past = list(5, 1, 0, 1) }), with(0, func(v *api.Version) { v.Past = list(0, 1, 5, 1, 6, 1) }), with(1, func(v *api.Version) { v.Past = list(0, 1) }), with(2, func(v *api.Version) { v.Past = list(0, 1) }),
		with(1, func(v *api.Version) { v.Dead = false }), with(2, func(v *api.Version) { v.Dead = true }), with(0, func(v *api.Version) { v.Data = "" }), with(0, func(v *api.Version) { v.Data = "y" }), with(0, func(v *api.Version) { v.Data = "x\x00" }), with(2, func(v *api.Version) { v.Data = "\x00" }), with(1, func(v *api.Version) { v.Data = "x" }),
		leaf(base[1], base[0], base[2]), leaf(base[0], base[2], base[1]), base[:2], base[1:], base[:1], nil, append(copyOf(base), live(9, 1, "")), append(copyOf(base), base[2]), append(leaf(base[0]), base...),
	} {
		if Same(base, other) || Same(other, base) {
			t.Errorf("%d: %v is the same as %v", i, other, base)
		}
	}
	// R3: an empty Past is the same as none.
	if !Same(leaf(live(0, 1, "")), leaf(api.Version{Dot: dot(0, 1), Past: []api.Dot{}})) || !Same(nil, leaf()) || !Same(leaf(), make([]api.Version, 0, 3)) {
		t.Error("nothing and none differ")
	}
}

// copyOf is a list of versions in new memory.
func copyOf(l []api.Version) []api.Version {
	copied := slices.Clone(l)
	for i := range copied {
		copied[i].Past = slices.Clone(copied[i].Past)
	}
	return copied
}

// holdSingle holds the calls of one leaf against the chapter's words.
func holdSingle(t *testing.T, l []api.Version, dots []api.Dot) {
	t.Helper()
	if got, want := CheckLeaf(l), leafWords(l); got != want {
		t.Fatalf("CheckLeaf of %v is %v, not %v", l, got, want)
	}
	if got, want := Cover(l), coverWords(l); !slices.Equal(got, want) {
		t.Fatalf("Cover of %v is %v, not %v", l, got, want)
	}
	if got, want := Live(l), liveWords(l); !same(got, want) {
		t.Fatalf("Live of %v is %v, not %v", l, got, want)
	}
	got, is := Winner(l)
	if want, due := winnerWords(l); !sameVersion(got, want) || is != due {
		t.Fatalf("Winner of %v is %v, %v, not %v, %v", l, got, is, want, due)
	}
	for i, d := range dots {
		data := bytesOf([]int{0, 1, 48, 49}[i%4])
		got, err := Write(l, d, data)
		if want, due := writeWords(l, d, data); !same(got, want) || err != due {
			t.Fatalf("Write of %v, %v, %q is %v, %v, not %v, %v", l, d, data, got, err, want, due)
		}
		got, err = Erase(l, d)
		if want, due := eraseWords(l, d); !same(got, want) || err != due {
			t.Fatalf("Erase of %v, %v is %v, %v, not %v, %v", l, d, got, err, want, due)
		}
	}
}

// near are dots around those that the leaves have.
func near() []api.Dot {
	dots := list(-1, 1, 64, 1, 0, 0, lastPeer, -1, 1, top+1, 2, math.MinInt)
	for _, peer := range []int{0, 1, 9, 31, lastPeer} {
		for count := 1; count <= 4; count++ {
			dots = append(dots, dot(peer, count))
		}
	}
	return dots
}

// 7.1, 7.2, 7.3: single leaves against the chapter's words, and the same again (R5).
func TestSinglesAgainstWords(t *testing.T) {
	all := slices.Concat(edges(), small(2, 0, 1), drawn(1, 1500))
	for _, c := range brokenLeaves() {
		all = append(all, c.l)
	}
	right, other := 0, 0
	for _, l := range all {
		if leafWords(l) == api.OK {
			right++
		} else {
			other++
		}
		for range 2 {
			holdSingle(t, l, near())
		}
	}
	if right < 1000 || other < 200 {
		t.Errorf("%d leaves that may be and %d others alone", right, other)
	}
}

// 7.1, 7.3: versions of each kind, each two of them, against the chapter's words.
func TestVersionsAgainstWords(t *testing.T) {
	all := few()
	var met [17]int
	for _, v := range all {
		if got, want := Check(v), checkWords(v); got != want {
			t.Fatalf("Check of %v is %v, not %v", v, got, want)
		}
		for _, w := range all {
			if got, want := Covers(v, w), hasWords(v.Past, w.Dot); got != want {
				t.Fatalf("%v covers %v: %v", v, w, got)
			}
			if got, want := Wins(v, w), winsWords(v, w); got != want {
				t.Fatalf("%v wins against %v: %v", v, w, got)
			}
			got, want := CheckLeaf(leaf(v, w)), leafWords(leaf(v, w))
			if got != want {
				t.Fatalf("CheckLeaf of %v and %v is %v, not %v", v, w, got, want)
			}
			met[want]++
			winner, _ := Winner(leaf(v, w))
			if due, _ := winnerWords(leaf(v, w)); !sameVersion(winner, due) {
				t.Fatalf("Winner of %v and %v is %v", v, w, winner)
			}
		}
	}
	for _, e := range []api.Errno{api.OK, api.ErrSize, api.ErrForm, api.ErrOrder, api.ErrPeer, api.ErrCount} {
		if met[e] == 0 {
			t.Errorf("%v was never met", e)
		}
	}
}

// 7.3: of two versions of unlike Dots just one wins, and who wins against one that wins, wins.
func TestWinsIsAnOrder(t *testing.T) {
	var all []api.Version
	for _, peer := range []int{0, 1, lastPeer} {
		for _, count := range []int{1, 2, top} {
			all = append(all, live(peer, count, "x"), dead(peer, count))
		}
	}
	for i, a := range all {
		for j, b := range all {
			if Wins(a, b) == Wins(b, a) && i != j || Wins(a, a) {
				t.Fatalf("%v and %v", a, b)
			}
			for _, c := range all {
				if Wins(a, b) && Wins(b, c) && !Wins(a, c) {
					t.Fatalf("%v, %v, %v", a, b, c)
				}
			}
		}
	}
}

// marked is a leaf whose live versions have a text before their data, so that it is told whose they are.
func marked(l []api.Version, mark string) []api.Version {
	other := copyOf(l)
	for i, v := range other {
		if !v.Dead {
			other[i].Data = mark + v.Data
		}
	}
	return other
}

// holdPair holds Sync and Same of two leaves against the chapter's words.
func holdPair(t *testing.T, a, b []api.Version) {
	t.Helper()
	got, want := Sync(a, b), syncWords(a, b)
	if !same(got, want) {
		t.Fatalf("Sync of %v and %v is %v, not %v", a, b, got, want)
	}
	if e := leafWords(got); e != api.OK {
		t.Fatalf("Sync of %v and %v is %v, which is no leaf: %v", a, b, got, e)
	}
	if got, want := Same(a, b), same(a, b); got != want {
		t.Fatalf("%v is the same as %v: %v", a, b, got)
	}
}

// 7.4, 7.5: all pairs of small leaves, and pairs of others, against the chapter's words; what is synced is a leaf.
func TestPairsAgainstWords(t *testing.T) {
	others := slices.Concat(edges(), drawn(2, 150))
	for i, c := range brokenLeaves() {
		if i%5 == 0 {
			others = append(others, c.l)
		}
	}
	of3 := small(2, 0, 5, lastPeer)
	for i := 0; i < len(of3); i += len(of3) / 150 {
		others = append(others, of3[i])
	}
	for _, leaves := range [][][]api.Version{small(2, 0, 1), others} {
		for _, a := range leaves {
			for _, b := range leaves {
				holdPair(t, marked(a, "a"), marked(b, "b"))
				holdPair(t, a, b)
			}
		}
	}
}

// roomed is a leaf in greater memory, its Pasts too, with versions and dots around them that nobody may touch.
func roomed(l []api.Version) (inner, room []api.Version) {
	room = append(leaf(live(7, 77, "ahead")), copyOf(l)...)
	room = append(room, live(9, 99, "behind", 9, 98), dead(9, 100))
	for i, v := range room {
		dots := slices.Concat(v.Past, list(8, 88, 8, 89))
		room[i].Past = dots[:len(v.Past)]
	}
	return room[1 : 1+len(l)], room
}

// wholeOf is a copy of a list of versions with all that lies behind the ends of their Pasts.
func wholeOf(room []api.Version) []api.Version {
	whole := slices.Clone(room)
	for i, v := range whole {
		whole[i].Past = slices.Clone(v.Past[:cap(v.Past)])
	}
	return whole
}

// callAll calls each function with two leaves, and hands out the leaves and the vectors that they answer.
func callAll(a, b []api.Version) (leaves [][]api.Version, vectors [][]api.Dot) {
	for _, l := range [][]api.Version{a, b} {
		CheckLeaf(l)
		leaves = append(leaves, Live(l), Sync(l, l), Sync(l, nil), Sync(nil, l))
		vectors = append(vectors, Cover(l))
		if v, is := Winner(l); is {
			leaves = append(leaves, leaf(v))
		}
		for _, d := range list(2, 1, 0, 2, lastPeer, top, 64, 1, 0, 0) {
			written, _ := Write(l, d, "w")
			erased, _ := Erase(l, d)
			leaves = append(leaves, written, erased)
		}
	}
	for i, v := range a {
		Check(v)
		if i < len(b) {
			Covers(v, b[i])
			Wins(v, b[i])
		}
	}
	Same(a, b)
	leaves = append(leaves, Sync(a, b), Sync(b, a))
	for _, l := range leaves {
		for _, v := range l {
			vectors = append(vectors, v.Past)
		}
	}
	return leaves, vectors
}

// R4: no leaf that is handed in is changed, nor what lies around it, and what is handed out shares no memory with it, within itself or with one another.
func TestMemory(t *testing.T) {
	all := slices.Concat(edges(), drawn(4, 40))
	for _, c := range brokenLeaves() {
		if len(c.l) < 64 {
			all = append(all, c.l)
		}
	}
	for i, l := range all {
		for _, other := range [][]api.Version{all[(i+1)%len(all)], all[(i*7+3)%len(all)], nil, leaf(live(0, 3, "o", 2, 4), dead(9, 2, 0, 2))} {
			a, roomA := roomed(l)
			b, roomB := roomed(other)
			wantA, wantB := wholeOf(roomA), wholeOf(roomB)
			leaves, vectors := callAll(a, b)
			againLeaves, againVectors := callAll(a, b)
			if !same(wholeOf(roomA), wantA) || !same(wholeOf(roomB), wantB) {
				t.Fatalf("%v and %v are now %v and %v", wantA, wantB, roomA, roomB)
			}
			if !slices.EqualFunc(leaves, againLeaves, same) {
				t.Fatalf("of %v and %v: something else the second time", l, other)
			}
			wipe(t, leaves, vectors, againVectors)
			if !same(wholeOf(roomA), wantA) || !same(wholeOf(roomB), wantB) {
				t.Fatalf("what is handed out is of the memory of %v or %v", l, other)
			}
			if now, _ := callAll(a, b); !slices.EqualFunc(now, againLeaves, same) {
				t.Fatalf("of %v and %v: something else behind a change of what was handed out", l, other)
			}
		}
	}
}

// wipe wipes each vector and each leaf out, one by one, and looks that the others stay.
func wipe(t *testing.T, leaves [][]api.Version, vectors, want [][]api.Dot) {
	t.Helper()
	for i, v := range vectors {
		if !slices.Equal(v, want[i]) {
			t.Fatalf("%v shares its memory with an answer ahead; it was %v", v, want[i])
		}
		clear(v[:cap(v)])
	}
	var dots [][]api.Dot
	for _, l := range leaves {
		dots = append(dots, dotsOf(l))
	}
	for i, l := range leaves {
		if !slices.Equal(dotsOf(l), dots[i]) {
			t.Fatalf("%v shares its memory with an answer ahead; its dots were %v", l, dots[i])
		}
		clear(l[:cap(l)])
	}
}

// dotsOf are the Dots of a list's versions.
func dotsOf(l []api.Version) []api.Dot {
	var dots []api.Dot
	for _, v := range l {
		dots = append(dots, v.Dot)
	}
	return dots
}

// R4: what was handed in may be changed behind the call, and the answers stay.
func TestNotKept(t *testing.T) {
	for _, l := range slices.Concat(edges(), drawn(5, 100)) {
		a, roomA := roomed(l)
		b, roomB := roomed(leaf(live(0, 3, "o", 2, 4), dead(9, 2, 0, 2)))
		answers, covers := callAll(a, b)
		want, wantCovers := callAll(copyOf(a), copyOf(b))
		for _, room := range [][]api.Version{roomA, roomB} {
			for _, v := range room {
				clear(v.Past[:cap(v.Past)])
			}
			clear(room)
		}
		if !slices.EqualFunc(answers, want, same) || !slices.EqualFunc(covers, wantCovers, slices.Equal) {
			t.Fatalf("of %v something was kept", l)
		}
	}
}

// R3: an empty list is the same, whether it is nil or not: as a leaf, and as a Past.
func TestEmptyLists(t *testing.T) {
	for _, none := range [][]api.Version{nil, {}, make([]api.Version, 0, 4), leaf(live(1, 1, "x"))[:0]} {
		written, err := Write(none, dot(4, 1), "x")
		if CheckLeaf(none) != api.OK || len(Cover(none)) != 0 || len(Live(none)) != 0 || err != api.OK || !same(written, leaf(live(4, 1, "x"))) {
			t.Errorf("of %#v", none)
		}
		if v, is := Winner(none); is || !sameVersion(v, api.Version{}) {
			t.Errorf("Winner of %#v is %v, %v", none, v, is)
		}
		for _, l := range edges() {
			if !same(Sync(none, l), l) || !same(Sync(l, none), l) || Same(none, l) != (len(l) == 0) {
				t.Errorf("of %#v and %v", none, l)
			}
		}
	}
	for _, past := range [][]api.Dot{nil, {}, make([]api.Dot, 0, 4), list(1, 1)[:0]} {
		v := api.Version{Dot: dot(4, 1), Past: past, Data: "x"}
		if Check(v) != api.OK || Covers(v, live(1, 1, "")) || !slices.Equal(Cover(leaf(v)), list(4, 1)) || !Same(leaf(v), leaf(live(4, 1, "x"))) || !same(Sync(leaf(v), leaf(live(1, 1, ""))), leaf(live(1, 1, ""), v)) {
			t.Errorf("of %#v", v)
		}
	}
}

// R1: long lists, long Pasts and much data come to an end, with the error that is due.
func TestLongLists(t *testing.T) {
	const many = 1 << 17
	long := make([]api.Version, many)
	past := make([]api.Dot, many)
	for i := range long {
		long[i], past[i] = live(i, 1, "x"), dot(i, 1)
	}
	if CheckLeaf(long) != api.ErrSize || len(Cover(long)) != 0 || len(Sync(long, nil)) != 0 || len(Sync(nil, long)) != 0 || !Same(long, copyOf(long)) || len(Live(long)) != many {
		t.Error("of a long list")
	}
	if v, is := Winner(long); !is || v.Dot != dot(many-1, 1) {
		t.Errorf("Winner of a long list is %v, %v", v, is)
	}
	v := api.Version{Dot: dot(0, 2), Past: past}
	if Check(v) != api.ErrPeer || Covers(v, live(1, 1, "")) || CheckLeaf(leaf(v)) != api.ErrPeer {
		t.Error("of a long Past")
	}
	if _, err := Write(nil, dot(0, 1), bytesOf(1<<20)); err != api.ErrSize || Check(live(0, 1, bytesOf(1<<20))) != api.ErrSize {
		t.Error("of much data")
	}
}

// R5: many at once get the same answers.
func TestAtOnce(t *testing.T) {
	shared := drawn(6, 150)
	var all sync.WaitGroup
	for range 8 {
		all.Go(func() {
			for i, a := range shared {
				b := shared[len(shared)-1-i]
				if !same(Sync(a, b), syncWords(a, b)) || CheckLeaf(a) != leafWords(a) || !slices.Equal(Cover(a), coverWords(a)) || !same(Live(a), liveWords(a)) {
					t.Errorf("of %v and %v something else at once", a, b)
				}
			}
		})
	}
	all.Wait()
}

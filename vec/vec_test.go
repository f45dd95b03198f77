package vec

import (
	"math"
	"math/rand"
	"slices"
	"sync"
	"testing"

	"hearsay/api"
)

const (
	lastPeer = 63
	most     = 1 << 20
)

// list is a list of dots, told by peers and counts.
func list(numbers ...int) []api.Dot {
	var dots []api.Dot
	for i := 0; i+1 < len(numbers); i += 2 {
		dots = append(dots, api.Dot{Peer: numbers[i], Count: numbers[i+1]})
	}
	return dots
}

// dot is a dot.
func dot(peer, count int) api.Dot {
	return api.Dot{Peer: peer, Count: count}
}

// allPeers is the vector of all peers, each with the count that is told of it.
func allPeers(count func(peer int) int) []api.Dot {
	var dots []api.Dot
	for peer := range 64 {
		if n := count(peer); n > 0 {
			dots = append(dots, dot(peer, n))
		}
	}
	return dots
}

// checkDotWords tells by the chapter's words why a dot may not be.
func checkDotWords(d api.Dot) api.Errno {
	switch {
	case d.Peer < 0 || d.Peer > 63:
		return api.ErrPeer
	case d.Count < 1 || d.Count > 1048576:
		return api.ErrCount
	}
	return api.OK
}

// checkWords is what Check answers by the chapter's words: the first dot with which a beginning of the list is no vector tells the error.
func checkWords(v []api.Dot) api.Errno {
	ahead := -1
	for _, d := range v {
		switch err := checkDotWords(d); {
		case err != api.OK:
			return err
		case d.Peer <= ahead:
			return api.ErrOrder
		}
		ahead = d.Peer
	}
	return api.OK
}

// counts are a list's counts, by peers; nothing, if it is no vector.
func counts(v []api.Dot) (of [64]int, is bool) {
	if checkWords(v) != api.OK {
		return of, false
	}
	for _, d := range v {
		of[d.Peer] = d.Count
	}
	return of, true
}

// together is what two lists come to, peer by peer; nothing, if one of them is no vector.
func together(a, b []api.Dot, choose func(x, y int) int) []api.Dot {
	ofA, isA := counts(a)
	ofB, isB := counts(b)
	if !isA || !isB {
		return nil
	}
	return allPeers(func(peer int) int { return choose(ofA[peer], ofB[peer]) })
}

func greater(x, y int) int {
	if x > y {
		return x
	}
	return y
}

func lesser(x, y int) int {
	return x + y - greater(x, y)
}

// withinWords is what Within answers by the chapter's words.
func withinWords(a, b []api.Dot) bool {
	ofA, isA := counts(a)
	ofB, isB := counts(b)
	for peer := range 64 {
		if ofA[peer] > ofB[peer] {
			return false
		}
	}
	return isA && isB
}

// compareWords is what Compare answers by the chapter's words.
func compareWords(a, b []api.Dot) int {
	if withinWords(a, b) && withinWords(b, a) {
		return 0
	}
	if withinWords(a, b) {
		return 1
	}
	if withinWords(b, a) {
		return 2
	}
	return 3
}

// small are all vectors of three peers with counts up to three.
func small() [][]api.Dot {
	var all [][]api.Dot
	for x := range 4 {
		for y := range 4 {
			for z := range 4 {
				all = append(all, allPeers(func(peer int) int {
					return map[int]int{0: x, 1: y, lastPeer: z}[peer]
				}))
			}
		}
	}
	return all
}

// edges are vectors at the limits.
func edges() [][]api.Dot {
	return [][]api.Dot{
		nil, {}, make([]api.Dot, 0, 4),
		list(0, 1), list(0, 2), list(0, most-1), list(0, most), list(lastPeer, 1), list(lastPeer, most-1), list(lastPeer, most), list(31, 7),
		list(0, 1, lastPeer, 1), list(0, most, lastPeer, most), list(0, most, lastPeer, 1), list(0, 1, lastPeer, most), list(0, 1, 1, 1), list(62, 1, lastPeer, 1),
		list(0, 2, 3, 1), list(0, 1, 5, 4), list(0, 2, 3, 1, 5, 4),
		allPeers(func(int) int { return 1 }),
		allPeers(func(int) int { return most }),
		allPeers(func(peer int) int { return 1 + peer }),
		allPeers(func(peer int) int { return 64 - peer }),
		allPeers(func(peer int) int { return peer % 2 * 5 }),
		allPeers(func(peer int) int { return (1 - peer%2) * 5 }),
		allPeers(func(peer int) int { return peer % 3 }),
		allPeers(func(peer int) int { return lesser(peer, 1) }),
		allPeers(func(peer int) int { return lesser(63-peer, 1) }),
	}
}

// wrong are lists that are no vectors, with the errors that are due.
func wrong() []struct {
	v   []api.Dot
	err api.Errno
} {
	all := allPeers(func(int) int { return 1 })
	return []struct {
		v   []api.Dot
		err api.Errno
	}{
		{list(-1, 1), api.ErrPeer}, {list(64, 1), api.ErrPeer}, {list(65, 1), api.ErrPeer}, {list(math.MinInt, 1), api.ErrPeer}, {list(math.MaxInt, 1), api.ErrPeer},
		{list(0, 1, 64, 1), api.ErrPeer}, {list(0, 1, -1, 1), api.ErrPeer}, {list(-1, 1, 0, 1), api.ErrPeer}, {list(64, 1, 65, 1), api.ErrPeer},
		{list(1, 0), api.ErrCount}, {list(1, -1), api.ErrCount}, {list(1, most+1), api.ErrCount}, {list(1, math.MinInt), api.ErrCount}, {list(1, math.MaxInt), api.ErrCount},
		{list(0, 0), api.ErrCount}, {list(lastPeer, 0), api.ErrCount}, {list(lastPeer, most+1), api.ErrCount}, {list(0, 1, 1, 0), api.ErrCount}, {list(0, 0, 1, 1), api.ErrCount},
		{list(0, 1, 0, 1), api.ErrOrder}, {list(0, 1, 0, 2), api.ErrOrder}, {list(1, 1, 0, 1), api.ErrOrder}, {list(lastPeer, 1, lastPeer, 1), api.ErrOrder},
		{list(lastPeer, 1, 0, 1), api.ErrOrder}, {list(0, 1, 2, 1, 1, 1), api.ErrOrder}, {list(0, 1, 2, 1, 2, 1), api.ErrOrder}, {list(0, 1, 2, 1, 0, 1), api.ErrOrder}, {list(2, 1, 1, 1, 3, 1), api.ErrOrder},
		// More than one of these at one dot: the peer, then the count, then the order.
		{list(-1, 0), api.ErrPeer}, {list(64, most+1), api.ErrPeer}, {list(64, -1), api.ErrPeer}, {list(5, 1, -1, 0), api.ErrPeer}, {list(5, 1, 5, 0), api.ErrCount},
		{list(5, 1, 4, most+1), api.ErrCount}, {list(5, 1, -1, 1), api.ErrPeer}, {list(5, 1, 4, -1), api.ErrCount},
		// At two dots, in either order: the dot ahead tells.
		{list(64, 1, 1, 0), api.ErrPeer}, {list(1, 0, 64, 1), api.ErrCount}, {list(1, 0, 1, 1), api.ErrCount}, {list(-1, 1, -1, 1), api.ErrPeer}, {list(2, 0, 1, 1), api.ErrCount},
		{list(1, 1, 1, 1, 64, 1), api.ErrOrder}, {list(1, 1, 64, 1, 1, 1), api.ErrPeer}, {list(1, 1, 1, 1, 2, 0), api.ErrOrder}, {list(1, 1, 2, 0, 1, 1), api.ErrCount},
		{list(1, 1, 0, 1, -1, 1), api.ErrOrder}, {list(1, 1, -1, 1, 0, 1), api.ErrPeer}, {list(1, 0, -1, 1), api.ErrCount}, {list(-1, 1, 1, 0), api.ErrPeer},
		// Behind a vector of all peers nothing can stand.
		{append(slices.Clone(all), dot(lastPeer, 1)), api.ErrOrder}, {append(slices.Clone(all), dot(64, 1)), api.ErrPeer}, {append(slices.Clone(all), dot(0, 0)), api.ErrCount},
		{slices.Concat(all, all), api.ErrOrder}, {append([]api.Dot{{}}, all...), api.ErrCount}, {make([]api.Dot, 1000), api.ErrCount},
	}
}

// drawn are lists of dots drawn, always the same ones: vectors, and some others.
func drawn(seed int64, count int) [][]api.Dot {
	draw := rand.New(rand.NewSource(seed))
	odd := []api.Dot{{Peer: -1, Count: 1}, {Peer: 64, Count: 1}, {Peer: 3}, {Peer: 3, Count: -2}, {Peer: 3, Count: most + 1}, {Peer: 64}, {Peer: 0, Count: 1}, {Peer: 63, Count: most}}
	var lists [][]api.Dot
	for range count {
		thin, high := 1+draw.Intn(8), []int{2, 5, most}[draw.Intn(3)]
		v := allPeers(func(int) int {
			if draw.Intn(thin) > 0 {
				return 0
			}
			return 1 + draw.Intn(high)
		})
		for draw.Intn(4) == 0 {
			v = slices.Insert(v, draw.Intn(len(v)+1), odd[draw.Intn(len(odd))])
		}
		if draw.Intn(8) == 0 {
			draw.Shuffle(len(v), func(i, j int) { v[i], v[j] = v[j], v[i] })
		}
		lists = append(lists, v)
	}
	return lists
}

// lists are all of these.
func lists(seed int64) [][]api.Dot {
	all := slices.Concat(edges(), drawn(seed, 150))
	for _, c := range wrong() {
		all = append(all, c.v)
	}
	return all
}

// 5.1: lists that are vectors, and others, written down.
func TestCheckTable(t *testing.T) {
	for _, v := range slices.Concat(edges(), small()) {
		if e := Check(v); e != api.OK {
			t.Errorf("Check(%v) = %v", v, e)
		}
	}
	for _, c := range wrong() {
		if e := Check(c.v); e != c.err {
			t.Errorf("Check(%v) = %v, not %v", c.v, e, c.err)
		}
	}
}

// 5.1: each peer and each count near the limits, alone and behind a dot.
func TestCheckLimits(t *testing.T) {
	near := []int{0, 1, 2, most - 1, most, most + 1, -1, math.MaxInt, math.MinInt, math.MaxInt32 + 1, math.MinInt32 - 1, 1 << 32, 1<<32 + 1}
	for peer := -70; peer <= 140; peer++ {
		for _, count := range near {
			for _, v := range [][]api.Dot{list(peer, count), list(0, 1, peer, count), list(31, 1, peer, count), list(peer, count, lastPeer, 1)} {
				if got, want := Check(v), checkWords(v); got != want {
					t.Fatalf("Check(%v) = %v, not %v", v, got, want)
				}
			}
		}
	}
}

// 5.1: what is counted of a peer, written down.
func TestGetTable(t *testing.T) {
	all := allPeers(func(peer int) int { return 1 + peer })
	for _, c := range []struct {
		v          []api.Dot
		peer, want int
	}{
		{list(0, 2, 3, 1), 0, 2}, {list(0, 2, 3, 1), 3, 1}, {list(0, 2, 3, 1), 1, 0}, {list(0, 2, 3, 1), 4, 0}, {list(0, 2, 3, 1), lastPeer, 0},
		{list(0, most), 0, most}, {list(lastPeer, most), lastPeer, most}, {list(lastPeer, 1), lastPeer, 1}, {list(lastPeer, 1), 0, 0},
		{all, 0, 1}, {all, 31, 32}, {all, lastPeer, 64}, {nil, 0, 0}, {[]api.Dot{}, lastPeer, 0},
		// Peers that there are not.
		{list(0, 2, 3, 1), -1, 0}, {list(0, 2, 3, 1), 64, 0}, {all, -1, 0}, {all, 64, 0}, {all, math.MinInt, 0}, {all, math.MaxInt, 0}, {nil, -1, 0},
		// Lists that are no vectors, asked for a peer that stands there.
		{list(-1, 5), -1, 0}, {list(64, 5), 64, 0}, {list(1, 0), 1, 0}, {list(1, -3), 1, 0}, {list(1, most+1), 1, 0}, {list(2, 5, 1, 5), 2, 0}, {list(2, 5, 1, 5), 1, 0},
		{list(1, 5, 1, 5), 1, 0}, {list(1, 5, 64, 1), 1, 0}, {list(1, 5, 2, 0), 1, 0}, {list(0, 0, 1, 5), 1, 0},
	} {
		if got := Get(c.v, c.peer); got != c.want {
			t.Errorf("Get(%v, %d) = %d, not %d", c.v, c.peer, got, c.want)
		}
	}
}

// 5.1: which dots a vector has, written down: none of Count 0, its peer's last one, and not the one behind it.
func TestHasTable(t *testing.T) {
	v := list(0, 2, 3, 1, lastPeer, most)
	for _, c := range []struct {
		v    []api.Dot
		d    api.Dot
		want bool
	}{
		{v, dot(0, 1), true}, {v, dot(0, 2), true}, {v, dot(0, 3), false}, {v, dot(3, 1), true}, {v, dot(3, 2), false},
		{v, dot(lastPeer, 1), true}, {v, dot(lastPeer, most-1), true}, {v, dot(lastPeer, most), true}, {v, dot(1, 1), false}, {v, dot(62, 1), false},
		{nil, dot(0, 1), false}, {[]api.Dot{}, dot(lastPeer, 1), false},
		// Dots that may not be.
		{v, dot(0, 0), false}, {v, dot(0, -1), false}, {v, dot(1, 0), false}, {v, dot(lastPeer, most+1), false}, {v, dot(0, math.MinInt), false}, {v, dot(0, math.MaxInt), false},
		{v, dot(-1, 1), false}, {v, dot(64, 1), false}, {v, dot(-1, 0), false}, {v, dot(64, 0), false}, {v, dot(math.MaxInt, 1), false}, {nil, dot(-1, 0), false}, {nil, dot(0, 0), false},
		// Lists that are no vectors, asked for a dot that stands there.
		{list(-1, 1), dot(-1, 1), false}, {list(64, 1), dot(64, 1), false}, {list(1, 0), dot(1, 0), false}, {list(1, most+1), dot(1, 1), false},
		{list(1, 1, 1, 1), dot(1, 1), false}, {list(2, 1, 1, 1), dot(2, 1), false}, {list(1, 1, 2, 0), dot(1, 1), false}, {list(1, 1, 64, 1), dot(1, 1), false},
	} {
		if got := Has(c.v, c.d); got != c.want {
			t.Errorf("Has(%v, %v) = %v", c.v, c.d, got)
		}
	}
}

// 5.2: what two come to, written down, the chapter's among them.
func TestJoinAndMeetTable(t *testing.T) {
	ones, full := allPeers(func(int) int { return 1 }), allPeers(func(int) int { return most })
	for _, c := range []struct{ a, b, join, meet []api.Dot }{
		{list(0, 2, 3, 1), list(0, 1, 5, 4), list(0, 2, 3, 1, 5, 4), list(0, 1)},
		{nil, nil, nil, nil},
		{[]api.Dot{}, nil, nil, nil},
		{list(0, 1), nil, list(0, 1), nil},
		{list(lastPeer, most), []api.Dot{}, list(lastPeer, most), nil},
		{list(0, 1), list(lastPeer, 1), list(0, 1, lastPeer, 1), nil},
		{list(0, most), list(0, 1), list(0, most), list(0, 1)},
		{list(lastPeer, 1), list(lastPeer, most), list(lastPeer, most), list(lastPeer, 1)},
		{list(1, 2, 4, 9), list(1, 2, 4, 9), list(1, 2, 4, 9), list(1, 2, 4, 9)},
		{list(1, 2), list(1, 2, 4, 9), list(1, 2, 4, 9), list(1, 2)},
		{list(1, 2, 4, 1), list(1, 3, 2, 1, 4, 9), list(1, 3, 2, 1, 4, 9), list(1, 2, 4, 1)},
		{list(0, 1, 2, 1, 4, 1), list(1, 1, 3, 1, 5, 1), list(0, 1, 1, 1, 2, 1, 3, 1, 4, 1, 5, 1), nil},
		{list(0, 1, 1, 1), list(2, 1, 3, 1), list(0, 1, 1, 1, 2, 1, 3, 1), nil},
		{list(0, 5, 7, 2), list(0, 2, 7, 5), list(0, 5, 7, 5), list(0, 2, 7, 2)},
		{ones, full, full, ones},
		{ones, nil, ones, nil},
		{full, list(31, 7), full, list(31, 7)},
	} {
		for range 2 {
			if got := Join(c.a, c.b); !slices.Equal(got, c.join) {
				t.Errorf("Join(%v, %v) = %v, not %v", c.a, c.b, got, c.join)
			}
			if got := Meet(c.a, c.b); !slices.Equal(got, c.meet) {
				t.Errorf("Meet(%v, %v) = %v, not %v", c.a, c.b, got, c.meet)
			}
			c.a, c.b = c.b, c.a
		}
	}
}

// 5.2: a vector with a dot: one that it has, one that it has not, and one that may not be.
func TestWithTable(t *testing.T) {
	v := list(0, 2, 3, 1)
	all := allPeers(func(int) int { return 2 })
	for _, c := range []struct {
		v    []api.Dot
		d    api.Dot
		want []api.Dot
	}{
		{v, dot(0, 1), v}, {v, dot(0, 2), v}, {v, dot(3, 1), v}, {all, dot(lastPeer, 2), all}, {all, dot(0, 1), all},
		{v, dot(0, 3), list(0, 3, 3, 1)}, {v, dot(3, 9), list(0, 2, 3, 9)}, {v, dot(1, 1), list(0, 2, 1, 1, 3, 1)}, {v, dot(1, most), list(0, 2, 1, most, 3, 1)},
		{v, dot(lastPeer, most), list(0, 2, 3, 1, lastPeer, most)}, {list(1, 1), dot(0, 1), list(0, 1, 1, 1)},
		{nil, dot(0, 1), list(0, 1)}, {[]api.Dot{}, dot(lastPeer, most), list(lastPeer, most)},
		// Dots that may not be.
		{v, dot(0, 0), nil}, {v, dot(0, -1), nil}, {v, dot(0, most+1), nil}, {v, dot(1, 0), nil}, {v, dot(-1, 1), nil}, {v, dot(64, 1), nil}, {v, dot(64, 0), nil}, {nil, dot(-1, 1), nil}, {nil, dot(0, 0), nil},
		{v, dot(math.MinInt, math.MinInt), nil}, {v, dot(math.MaxInt, math.MaxInt), nil}, {v, api.Dot{}, nil},
		// Lists that are no vectors.
		{list(3, 1, 0, 2), dot(5, 1), nil}, {list(3, 1, 3, 1), dot(3, 1), nil}, {list(64, 1), dot(0, 1), nil}, {list(0, 0), dot(0, 1), nil}, {list(0, 0), dot(0, 0), nil},
	} {
		if got := With(c.v, c.d); !slices.Equal(got, c.want) {
			t.Errorf("With(%v, %v) = %v, not %v", c.v, c.d, got, c.want)
		}
	}
}

// 5.2, 5.3: one list that is a vector and one that is none, on either side, and twice the same one that is none.
func TestWrongOnEitherSide(t *testing.T) {
	for _, c := range wrong() {
		for _, v := range append(edges(), c.v) {
			for _, pair := range [][2][]api.Dot{{c.v, v}, {v, c.v}} {
				a, b := pair[0], pair[1]
				if got := Join(a, b); len(got) != 0 {
					t.Errorf("Join(%v, %v) = %v", a, b, got)
				}
				if got := Meet(a, b); len(got) != 0 {
					t.Errorf("Meet(%v, %v) = %v", a, b, got)
				}
				if Within(a, b) {
					t.Errorf("Within(%v, %v)", a, b)
				}
				if got := Compare(a, b); got != 3 {
					t.Errorf("Compare(%v, %v) = %d", a, b, got)
				}
			}
		}
	}
}

// 5.3: the constants are these numbers.
func TestConstants(t *testing.T) {
	if Equal != 0 || Before != 1 || After != 2 || Apart != 3 {
		t.Error(Equal, Before, After, Apart)
	}
}

// 5.3: how two stand to one another, written down, the chapter's among them.
func TestCompareTable(t *testing.T) {
	ones, full := allPeers(func(int) int { return 1 }), allPeers(func(int) int { return most })
	for _, c := range []struct {
		a, b []api.Dot
		want int
	}{
		{list(0, 2, 3, 1), list(0, 1, 5, 4), Apart},
		{nil, nil, Equal}, {nil, []api.Dot{}, Equal}, {list(0, 1), list(0, 1), Equal}, {full, full, Equal}, {list(0, 2, lastPeer, 1), list(0, 2, lastPeer, 1), Equal},
		{nil, list(0, 1), Before}, {[]api.Dot{}, list(lastPeer, most), Before}, {list(0, 1), list(0, 2), Before}, {list(0, 1), list(0, 1, lastPeer, 1), Before},
		{list(lastPeer, 1), list(0, 1, lastPeer, 1), Before}, {list(0, most-1), list(0, most), Before}, {ones, full, Before}, {list(31, 1), ones, Before},
		{list(1, 1, 3, 1), list(0, 1, 1, 1, 2, 1, 3, 1, 4, 1), Before}, {list(1, 1, 3, 1), list(1, 1, 3, 2), Before},
		{list(0, 1), list(1, 1), Apart}, {list(0, 1), list(lastPeer, most), Apart}, {list(0, 1, 1, 2), list(0, 2, 1, 1), Apart}, {list(0, 1, 1, 1), list(1, 1, 2, 1), Apart},
		{list(0, 2), ones, Apart}, {full[:63], full[1:], Apart}, {list(lastPeer, 2), ones, Apart}, {list(0, 1, 1, 1, 2, 2), list(0, 1, 1, 1, 2, 1, 3, 1), Apart},
	} {
		back := map[int]int{Equal: Equal, Before: After, Apart: Apart}[c.want]
		if got := Compare(c.a, c.b); got != c.want {
			t.Errorf("Compare(%v, %v) = %d, not %d", c.a, c.b, got, c.want)
		}
		if got := Compare(c.b, c.a); got != back {
			t.Errorf("Compare(%v, %v) = %d, not %d", c.b, c.a, got, back)
		}
		if got, want := Within(c.a, c.b), c.want == Equal || c.want == Before; got != want {
			t.Errorf("Within(%v, %v) = %v", c.a, c.b, got)
		}
		if got, want := Within(c.b, c.a), c.want == Equal; got != want {
			t.Errorf("Within(%v, %v) = %v", c.b, c.a, got)
		}
	}
}

// 5.3: a peer's next dot, written down.
func TestNextTable(t *testing.T) {
	v := list(0, 2, 3, most, 5, most-1, lastPeer, 1)
	full := allPeers(func(int) int { return most })
	for _, c := range []struct {
		v    []api.Dot
		peer int
		want api.Dot
		err  api.Errno
	}{
		{v, 0, dot(0, 3), api.OK}, {v, 5, dot(5, most), api.OK}, {v, lastPeer, dot(lastPeer, 2), api.OK}, {v, 1, dot(1, 1), api.OK}, {v, 62, dot(62, 1), api.OK},
		{nil, 0, dot(0, 1), api.OK}, {nil, lastPeer, dot(lastPeer, 1), api.OK}, {[]api.Dot{}, 31, dot(31, 1), api.OK},
		{v, 3, api.Dot{}, api.ErrCount}, {full, 0, api.Dot{}, api.ErrCount}, {full, lastPeer, api.Dot{}, api.ErrCount},
		// Peers that there are not.
		{v, -1, api.Dot{}, api.ErrPeer}, {v, 64, api.Dot{}, api.ErrPeer}, {nil, -1, api.Dot{}, api.ErrPeer}, {nil, 64, api.Dot{}, api.ErrPeer}, {full, -1, api.Dot{}, api.ErrPeer}, {full, 64, api.Dot{}, api.ErrPeer},
		{full, math.MinInt, api.Dot{}, api.ErrPeer}, {v, math.MaxInt, api.Dot{}, api.ErrPeer},
		// Of a list that is no vector its error, whatever the peer is.
		{list(1, 1, 1, 1), 1, api.Dot{}, api.ErrOrder}, {list(1, 1, 1, 1), -1, api.Dot{}, api.ErrOrder}, {list(1, 1, 1, 1), 64, api.Dot{}, api.ErrOrder}, {list(2, most, 1, most), 2, api.Dot{}, api.ErrOrder},
		{list(1, 0), 1, api.Dot{}, api.ErrCount}, {list(1, 0), 2, api.Dot{}, api.ErrCount}, {list(1, 0), 64, api.Dot{}, api.ErrCount}, {list(1, -1), -1, api.Dot{}, api.ErrCount}, {list(1, most+1), 64, api.Dot{}, api.ErrCount},
		{list(64, 1), 0, api.Dot{}, api.ErrPeer}, {list(64, 1), 64, api.Dot{}, api.ErrPeer}, {list(-1, most), -1, api.Dot{}, api.ErrPeer}, {list(0, most, 64, 1), 0, api.Dot{}, api.ErrPeer},
	} {
		if d, e := Next(c.v, c.peer); d != c.want || e != c.err {
			t.Errorf("Next(%v, %d) = %v, %v, not %v, %v", c.v, c.peer, d, e, c.want, c.err)
		}
	}
	for _, c := range wrong() {
		for _, peer := range []int{-1, 0, 1, 2, 5, lastPeer, 64} {
			if d, e := Next(c.v, peer); d != (api.Dot{}) || e != c.err {
				t.Errorf("Next(%v, %d) = %v, %v, not %v", c.v, peer, d, e, c.err)
			}
		}
	}
}

// 5.3: the next dot of each peer is the first that the vector has not, and with it the vector has just that one more.
func TestNextFollows(t *testing.T) {
	for _, v := range slices.Concat(edges(), small()) {
		for peer := range 64 {
			d, e := Next(v, peer)
			if Get(v, peer) == most {
				if d != (api.Dot{}) || e != api.ErrCount {
					t.Fatalf("Next(%v, %d) = %v, %v", v, peer, d, e)
				}
				continue
			}
			with := With(v, d)
			if e != api.OK || d.Peer != peer || Has(v, d) || d.Count > 1 && !Has(v, dot(peer, d.Count-1)) || !Has(with, d) || Size(with) != Size(v)+1 || Compare(v, with) != Before {
				t.Fatalf("Next(%v, %d) = %v, %v", v, peer, d, e)
			}
		}
	}
}

// 5.4: lists that are the same, and others, vectors or not.
func TestSameTable(t *testing.T) {
	for _, c := range []struct {
		a, b []api.Dot
		want bool
	}{
		{nil, nil, true}, {nil, []api.Dot{}, true}, {[]api.Dot{}, make([]api.Dot, 0, 9), true},
		{list(0, 1, 3, 2), list(0, 1, 3, 2), true}, {list(lastPeer, most), list(lastPeer, most), true},
		{list(0, 1), nil, false}, {list(0, 1), list(0, 2), false}, {list(0, 1), list(1, 1), false}, {list(0, 1, 3, 2), list(0, 1), false}, {list(0, 1, 3, 2), list(3, 2), false},
		{list(0, 1, 3, 2), list(0, 1, 3, 3), false}, {list(0, 1, 3, 2), list(0, 1, 4, 2), false}, {list(0, 1, 3, 2), list(0, 2, 3, 2), false}, {list(1, 2), list(2, 1), false},
		// Lists that are no vectors.
		{list(64, 0, -1, 5), list(64, 0, -1, 5), true}, {list(1, 1, 1, 1), list(1, 1, 1, 1), true}, {list(3, 1, 2, 1), list(3, 1, 2, 1), true}, {make([]api.Dot, 3), make([]api.Dot, 3), true},
		{list(0, math.MinInt, 0, math.MaxInt), list(0, math.MinInt, 0, math.MaxInt), true},
		{list(3, 1, 2, 1), list(2, 1, 3, 1), false}, {list(1, 1, 1, 1), list(1, 1), false}, {list(0, 0), nil, false}, {list(0, 0), list(0, -1), false}, {list(1, 0), list(2, 0), false}, {list(64, 1), list(65, 1), false},
	} {
		if got, back := Same(c.a, c.b), Same(c.b, c.a); got != c.want || back != c.want {
			t.Errorf("Same(%v, %v) = %v and %v", c.a, c.b, got, back)
		}
	}
}

// 5.4: how many dots there are, written down.
func TestSizeTable(t *testing.T) {
	for _, c := range []struct {
		v    []api.Dot
		want int
	}{
		{nil, 0}, {[]api.Dot{}, 0}, {list(0, 1), 1}, {list(lastPeer, 7), 7}, {list(0, 2, 3, 1, 5, 4), 7}, {list(1, most), most}, {list(0, most, lastPeer, 1), most + 1},
		{allPeers(func(int) int { return 1 }), 64}, {allPeers(func(int) int { return most }), 64 << 20}, {allPeers(func(peer int) int { return 1 + peer }), 65 * 32},
	} {
		if got := Size(c.v); got != c.want {
			t.Errorf("Size(%v) = %d, not %d", c.v, got, c.want)
		}
	}
	for _, c := range wrong() {
		if got := Size(c.v); got != 0 {
			t.Errorf("Size(%v) = %d", c.v, got)
		}
	}
}

// 5.1, 5.3, 5.4: single lists against the chapter's words, and the same again (R5).
func TestListsAgainstWords(t *testing.T) {
	vectorsMet, othersMet := 0, 0
	for _, v := range slices.Concat(lists(1), drawn(2, 2000)) {
		of, is := counts(v)
		if is {
			vectorsMet++
		} else {
			othersMet++
		}
		for range 2 {
			if got, want := Check(v), checkWords(v); got != want {
				t.Fatalf("Check(%v) = %v, not %v", v, got, want)
			}
			size := 0
			for peer := range 64 {
				size += of[peer]
				if got := Get(v, peer); got != of[peer] {
					t.Fatalf("Get(%v, %d) = %d, not %d", v, peer, got, of[peer])
				}
				for _, count := range []int{-1, 0, 1, of[peer] - 1, of[peer], of[peer] + 1, most, most + 1} {
					want := count >= 1 && count <= of[peer]
					if got := Has(v, dot(peer, count)); got != want {
						t.Fatalf("Has(%v, %d:%d) = %v", v, peer, count, got)
					}
				}
			}
			if got := Size(v); got != size {
				t.Fatalf("Size(%v) = %d, not %d", v, got, size)
			}
		}
	}
	if vectorsMet < 500 || othersMet < 500 {
		t.Errorf("%d vectors and %d other lists alone", vectorsMet, othersMet)
	}
}

// 5.2, 5.3, 5.4: pairs of lists against the chapter's words.
func TestPairsAgainstWords(t *testing.T) {
	met := [4]int{}
	all := append(lists(3), small()...)
	for _, a := range all {
		for _, b := range all {
			if got, want := Join(a, b), together(a, b, greater); !slices.Equal(got, want) {
				t.Fatalf("Join(%v, %v) = %v, not %v", a, b, got, want)
			}
			if got, want := Meet(a, b), together(a, b, lesser); !slices.Equal(got, want) {
				t.Fatalf("Meet(%v, %v) = %v, not %v", a, b, got, want)
			}
			if got, want := Within(a, b), withinWords(a, b); got != want {
				t.Fatalf("Within(%v, %v) = %v", a, b, got)
			}
			want := compareWords(a, b)
			if got := Compare(a, b); got != want {
				t.Fatalf("Compare(%v, %v) = %d, not %d", a, b, got, want)
			}
			met[want]++
			if got, want := Same(a, b), slices.Equal(a, b); got != want {
				t.Fatalf("Same(%v, %v) = %v", a, b, got)
			}
			if len(b) > 0 {
				if got, want := With(a, b[0]), together(a, b[:1], greater); !slices.Equal(got, want) {
					t.Fatalf("With(%v, %v) = %v, not %v", a, b[0], got, want)
				}
			}
		}
	}
	for how, pairs := range met {
		if pairs < 100 {
			t.Errorf("%d pairs alone stand so: %d", pairs, how)
		}
	}
}

// dotsOf is the set of the dots that a vector has, each asked for by itself.
func dotsOf(v []api.Dot) map[api.Dot]bool {
	set := map[api.Dot]bool{}
	for _, peer := range []int{0, 1, 2, lastPeer} {
		for count := range 6 {
			if Has(v, dot(peer, count)) {
				set[dot(peer, count)] = true
			}
		}
	}
	return set
}

// 5.5: Join has just what one of two has, Meet just what both have, dot by dot.
func TestSetsOfDots(t *testing.T) {
	for _, a := range small() {
		for _, b := range small() {
			inA, inB, inJoin, inMeet := dotsOf(a), dotsOf(b), dotsOf(Join(a, b)), dotsOf(Meet(a, b))
			for _, peer := range []int{0, 1, 2, lastPeer} {
				for count := range 6 {
					d := dot(peer, count)
					if inJoin[d] != (inA[d] || inB[d]) || inMeet[d] != (inA[d] && inB[d]) {
						t.Fatalf("%v of %v and %v", d, a, b)
					}
				}
			}
			if Size(Join(a, b))+Size(Meet(a, b)) != Size(a)+Size(b) || len(inA) != Size(a) {
				t.Fatalf("sizes of %v and %v", a, b)
			}
		}
	}
}

// 5.5: Join is the least vector that has what both have, Meet the greatest that both have.
func TestLeastAndGreatest(t *testing.T) {
	all := small()
	for _, a := range all {
		for _, b := range all {
			join, meet := Join(a, b), Meet(a, b)
			if Check(join) != api.OK || Check(meet) != api.OK || !Within(a, join) || !Within(b, join) || !Within(meet, a) || !Within(meet, b) {
				t.Fatalf("of %v and %v: %v and %v", a, b, join, meet)
			}
			for _, c := range all {
				if (Within(a, c) && Within(b, c)) != Within(join, c) || (Within(c, a) && Within(c, b)) != Within(c, meet) {
					t.Fatalf("of %v and %v: %v and %v, but %v", a, b, join, meet, c)
				}
			}
		}
	}
}

// 5.5: neither hangs on the order, nor on how often; of vectors at the limits, too.
func TestOrderAndAgain(t *testing.T) {
	all := append(edges(), drawn(4, 40)...)
	for _, a := range all {
		if Check(a) == api.OK && (!Same(Join(a, a), a) || !Same(Meet(a, a), a) || !Same(Join(a, nil), a) || len(Meet(a, nil)) != 0) {
			t.Fatalf("%v with itself", a)
		}
		for _, b := range all {
			join, meet := Join(a, b), Meet(a, b)
			if !Same(join, Join(b, a)) || !Same(meet, Meet(b, a)) {
				t.Fatalf("%v and %v hang on the order", a, b)
			}
			if Check(a) != api.OK || Check(b) != api.OK {
				continue
			}
			if !Same(Join(join, b), join) || !Same(Meet(meet, b), meet) || Within(a, b) != Same(join, b) || Within(a, b) != Same(meet, a) {
				t.Fatalf("%v and %v again", a, b)
			}
			for _, c := range all {
				if Check(c) == api.OK && (!Same(Join(join, c), Join(a, Join(b, c))) || !Same(Meet(meet, c), Meet(a, Meet(b, c)))) {
					t.Fatalf("%v, %v and %v hang on the order", a, b, c)
				}
			}
		}
	}
}

// inRoom is a list in greater memory, and that memory, with dots that nobody may touch around it.
func inRoom(v []api.Dot) (inner, room []api.Dot) {
	room = slices.Concat(list(7, 77), v, list(8, 88, 9, 99))
	return room[1 : 1+len(v)], room
}

// callAll calls each function with two lists, and hands out what they answer as lists.
func callAll(a, b []api.Dot) [][]api.Dot {
	d := dot(2, 2)
	for _, v := range [][]api.Dot{a, b} {
		Check(v)
		Get(v, 2)
		Has(v, d)
		Next(v, 2)
		Size(v)
	}
	Within(a, b)
	Compare(a, b)
	Same(a, b)
	return [][]api.Dot{Join(a, b), Meet(a, b), With(a, d), With(b, d), Join(a, nil), Join(nil, b), Join(a, a), Meet(b, b)}
}

// R4: no list that is handed in is changed, nor what lies around it, and what is handed out shares no memory with it.
func TestMemory(t *testing.T) {
	all := append(edges(), drawn(5, 30)...)
	for _, c := range wrong() {
		all = append(all, c.v)
	}
	for _, v := range all {
		for _, w := range all {
			a, roomA := inRoom(v)
			b, roomB := inRoom(w)
			wantA, wantB := slices.Clone(roomA), slices.Clone(roomB)
			answers, again := callAll(a, b), callAll(a, b)
			if !slices.Equal(roomA, wantA) || !slices.Equal(roomB, wantB) {
				t.Fatalf("%v and %v are now %v and %v", wantA, wantB, roomA, roomB)
			}
			for i, answer := range answers {
				clear(answer[:cap(answer)])
				if !slices.EqualFunc(answers[i+1:], again[i+1:], Same) {
					t.Fatalf("of %v and %v: answers share memory", v, w)
				}
			}
			if !slices.EqualFunc(callAll(a, b), again, Same) {
				t.Fatalf("of %v and %v: something else behind a change of what was handed out", v, w)
			}
			if !slices.Equal(roomA, wantA) || !slices.Equal(roomB, wantB) {
				t.Fatalf("what is handed out is of the memory of %v or %v", v, w)
			}
		}
	}
}

// R3: an empty list is the same, whether it is nil or not.
func TestEmptyLists(t *testing.T) {
	for _, none := range [][]api.Dot{nil, {}, make([]api.Dot, 0, 4), list(1, 1)[:0]} {
		d, e := Next(none, 4)
		if Check(none) != api.OK || Get(none, 0) != 0 || Has(none, dot(0, 1)) || Size(none) != 0 || d != dot(4, 1) || e != api.OK {
			t.Errorf("of %#v", none)
		}
		for _, v := range [][]api.Dot{nil, {}, list(0, 1), list(lastPeer, most)} {
			if !Same(Join(none, v), v) || !Same(Join(v, none), v) || len(Meet(none, v)) != 0 || len(Meet(v, none)) != 0 || !Within(none, v) || Within(v, none) != (len(v) == 0) || Same(none, v) != (len(v) == 0) {
				t.Errorf("of %#v and %v", none, v)
			}
		}
	}
}

// R1, R5: long lists come to an end, and many at once get the same answers.
func TestAtOnceAndLong(t *testing.T) {
	long := make([]api.Dot, 1<<20)
	for i := range long {
		long[i] = dot(i, 1)
	}
	d, e := Next(long, 0)
	if Check(long) != api.ErrPeer || Get(long, 0) != 0 || Size(long) != 0 || len(Join(long, long)) != 0 || Within(nil, long) || !Same(long, slices.Clone(long)) || d != (api.Dot{}) || e != api.ErrPeer {
		t.Error("of a long list")
	}
	var all sync.WaitGroup
	shared := lists(6)
	for range 8 {
		all.Go(func() {
			for i, a := range shared {
				b := shared[len(shared)-1-i]
				if !slices.Equal(Join(a, b), together(a, b, greater)) || Compare(a, b) != compareWords(a, b) || Check(a) != checkWords(a) {
					t.Errorf("of %v and %v something else at once", a, b)
				}
			}
		})
	}
	all.Wait()
}

package dots

import (
	"math"
	"math/rand"
	"slices"

	"hearsay/api"
)

const (
	lastPeer = 63
	top      = 1 << 20
)

// list is a list of dots, told by peers and counts.
func list(numbers ...int) []api.Dot {
	var dots []api.Dot
	for i := 0; i+1 < len(numbers); i += 2 {
		dots = append(dots, api.Dot{Peer: numbers[i], Count: numbers[i+1]})
	}
	return dots
}

// dot is a dot.
func dot(peer, count int) api.Dot {
	return api.Dot{Peer: peer, Count: count}
}

// set is a set of these lists, as they are.
func set(base, extra []api.Dot) Set {
	return Set{Base: base, Extra: extra}
}

// same tells whether two sets have the same lists.
func same(s, t Set) bool {
	return slices.Equal(s.Base, t.Base) && slices.Equal(s.Extra, t.Extra)
}

// dotWords tells by chapter 5's words why a dot may not be.
func dotWords(d api.Dot) api.Errno {
	switch {
	case d.Peer < 0 || d.Peer > 63:
		return api.ErrPeer
	case d.Count < 1 || d.Count > 1048576:
		return api.ErrCount
	}
	return api.OK
}

// checkWords is what Check answers by the chapter's words.
func checkWords(s Set) api.Errno {
	base := map[int]int{}
	ahead := dot(-1, 0)
	for _, d := range s.Base {
		if err := dotWords(d); err != api.OK {
			return err
		}
		if d.Peer <= ahead.Peer {
			return api.ErrOrder
		}
		base[d.Peer], ahead = d.Count, d
	}
	ahead = dot(-1, 0)
	for _, d := range s.Extra {
		if err := dotWords(d); err != api.OK {
			return err
		}
		if d.Peer < ahead.Peer || d.Peer == ahead.Peer && d.Count <= ahead.Count {
			return api.ErrOrder
		}
		if d.Count-base[d.Peer] < 2 {
			return api.ErrForm
		}
		ahead = d
	}
	return api.OK
}

// model is a set of dots, each by itself.
type model map[api.Dot]bool

// modelOf has a set's dots, each by itself; none, if it may not be. (For sets of few dots.)
func modelOf(s Set) model {
	m := model{}
	if checkWords(s) != api.OK {
		return m
	}
	for _, d := range s.Base {
		for count := 1; count <= d.Count; count++ {
			m[dot(d.Peer, count)] = true
		}
	}
	for _, d := range s.Extra {
		m[d] = true
	}
	return m
}

// sorted are the dots, rising by Peer, then Count.
func (m model) sorted() []api.Dot {
	var all []api.Dot
	for d := range m {
		all = append(all, d)
	}
	slices.SortFunc(all, func(a, b api.Dot) int {
		if a.Peer != b.Peer {
			return a.Peer - b.Peer
		}
		return a.Count - b.Count
	})
	return all
}

// set is the one Set of these dots: a peer's first ones, as far as there is no gap, are Base's.
func (m model) set() Set {
	var s Set
	for peer := range 64 {
		count := 0
		for m[dot(peer, count+1)] {
			count++
		}
		if count > 0 {
			s.Base = append(s.Base, dot(peer, count))
		}
	}
	for _, d := range m.sorted() {
		if i := slices.IndexFunc(s.Base, func(b api.Dot) bool { return b.Peer == d.Peer }); i < 0 || d.Count > s.Base[i].Count {
			s.Extra = append(s.Extra, d)
		}
	}
	return s
}

// and is the set of the dots of both.
func (m model) and(other model) model {
	both := model{}
	for d := range m {
		both[d] = true
	}
	for d := range other {
		both[d] = true
	}
	return both
}

// in tells whether another one has all.
func (m model) in(other model) bool {
	for d := range m {
		if !other[d] {
			return false
		}
	}
	return true
}

// gaps are all dots that are not there and of whose peer a later one is.
func (m model) gaps() []api.Dot {
	missing := model{}
	for d := range m {
		for count := 1; count < d.Count; count++ {
			if !m[dot(d.Peer, count)] {
				missing[dot(d.Peer, count)] = true
			}
		}
	}
	return missing.sorted()
}

// small are all sets of dots of two peers with counts up to four.
func small() []Set {
	var all []Set
	for bits := range 256 {
		m := model{}
		for i := range 8 {
			if bits>>i&1 == 1 {
				m[dot([]int{0, lastPeer}[i/4], 1+i%4)] = true
			}
		}
		all = append(all, m.set())
	}
	return all
}

// allPeers is the list of a dot of each peer, of that count.
func allPeers(count int) []api.Dot {
	var dots []api.Dot
	for peer := range 64 {
		dots = append(dots, dot(peer, count))
	}
	return dots
}

// edges are sets that may be, at the limits.
func edges() []Set {
	return []Set{
		{}, set([]api.Dot{}, []api.Dot{}), set(nil, []api.Dot{}), set([]api.Dot{}, nil), set(make([]api.Dot, 0, 4), make([]api.Dot, 0, 4)),
		set(list(0, 1), nil), set(list(lastPeer, 1), nil), set(list(0, top), nil), set(list(lastPeer, top), nil), set(list(0, 1, lastPeer, top), nil), set(list(0, top, lastPeer, 1), nil),
		set(nil, list(0, 2)), set(nil, list(lastPeer, 2)), set(nil, list(0, top)), set(nil, list(lastPeer, top)), set(nil, list(0, 2, lastPeer, top)), set(nil, list(0, top-1, 0, top)),
		set(list(0, 1), list(0, 3)), set(list(lastPeer, 1), list(lastPeer, 3)), set(list(0, top-2), list(0, top)), set(list(lastPeer, top-2), list(lastPeer, top)), set(list(0, 1), list(0, top)),
		set(list(5, 3), list(5, 5, 5, 6, 5, 8)), set(list(0, 2, 3, 1), list(0, 4, 1, 2, 3, 3, lastPeer, 7)), set(list(5, 3), list(4, 2, 6, 2)), set(list(4, 1, 6, 1), list(5, 2)),
		set(allPeers(1), nil), set(allPeers(top), nil), set(nil, allPeers(2)), set(allPeers(1), allPeers(3)), set(allPeers(top-2), allPeers(top)), set(nil, allPeers(top)),
	}
}

// broken is a set that may not be, and the error that is due.
type broken struct {
	s   Set
	err api.Errno
}

// brokenBases are sets whose Base is no vector, whatever their Extra is.
func brokenBases() []broken {
	return []broken{
		{set(list(-1, 1), nil), api.ErrPeer}, {set(list(64, 1), nil), api.ErrPeer}, {set(list(math.MinInt, 1), nil), api.ErrPeer}, {set(list(math.MaxInt, 1), nil), api.ErrPeer}, {set(list(0, 1, 64, 1), nil), api.ErrPeer},
		{set(list(1, 0), nil), api.ErrCount}, {set(list(1, -1), nil), api.ErrCount}, {set(list(1, top+1), nil), api.ErrCount}, {set(list(1, math.MinInt), nil), api.ErrCount}, {set(list(1, math.MaxInt), nil), api.ErrCount}, {set(list(0, 1, 1, 0), nil), api.ErrCount},
		{set(list(1, 1, 1, 1), nil), api.ErrOrder}, {set(list(1, 1, 1, 2), nil), api.ErrOrder}, {set(list(2, 1, 1, 1), nil), api.ErrOrder}, {set(list(lastPeer, 1, 0, 1), nil), api.ErrOrder},
		{set(list(64, 0), nil), api.ErrPeer}, {set(list(2, 1, 1, 0), nil), api.ErrCount}, {set(list(2, 1, -1, 1), nil), api.ErrPeer},
		// With an Extra that would be right, and with one that is wrong otherwise: Base tells.
		{set(list(64, 1), list(1, 3)), api.ErrPeer}, {set(list(1, 0), list(1, 3)), api.ErrCount}, {set(list(2, 1, 1, 1), list(1, 3)), api.ErrOrder},
		{set(list(64, 1), list(1, 0)), api.ErrPeer}, {set(list(1, 0), list(64, 3)), api.ErrCount}, {set(list(2, 1, 1, 1), list(64, 3)), api.ErrOrder}, {set(list(2, 1, 1, 1), list(3, 0)), api.ErrOrder},
		{set(list(1, 0), list(1, 1)), api.ErrCount}, {set(list(1, 0), list(1, 3, 1, 3)), api.ErrCount}, {set(list(-1, 3), list(-1, 5)), api.ErrPeer}, {set(list(1, 1, 1, 1), list(1, 1)), api.ErrOrder},
		{set(append(allPeers(1), dot(lastPeer, 1)), list(0, 3)), api.ErrOrder}, {set(append(allPeers(1), dot(64, 1)), nil), api.ErrPeer},
	}
}

// brokenExtras are sets whose Base is a vector, and whose Extra is wrong.
func brokenExtras() []broken {
	return []broken{
		{set(nil, list(-1, 2)), api.ErrPeer}, {set(nil, list(64, 2)), api.ErrPeer}, {set(nil, list(math.MinInt, 2)), api.ErrPeer}, {set(nil, list(math.MaxInt, 2)), api.ErrPeer}, {set(list(1, 1), list(1, 3, 64, 2)), api.ErrPeer}, {set(nil, list(1, 3, -1, 4)), api.ErrPeer},
		{set(nil, list(1, 0)), api.ErrCount}, {set(nil, list(1, -1)), api.ErrCount}, {set(nil, list(1, top+1)), api.ErrCount}, {set(nil, list(1, math.MinInt)), api.ErrCount}, {set(nil, list(1, math.MaxInt)), api.ErrCount}, {set(list(1, 1), list(1, 3, 1, top+1)), api.ErrCount}, {set(list(1, top), list(1, top+1)), api.ErrCount}, {set(list(1, top), list(1, top+2)), api.ErrCount},
		{set(nil, list(1, 3, 1, 3)), api.ErrOrder}, {set(nil, list(1, 4, 1, 3)), api.ErrOrder}, {set(nil, list(2, 3, 1, 3)), api.ErrOrder}, {set(nil, list(2, 3, 1, 4)), api.ErrOrder}, {set(nil, list(2, 4, 1, 3)), api.ErrOrder}, {set(nil, list(lastPeer, 2, 0, 2)), api.ErrOrder}, {set(nil, list(0, 2, 2, 2, 1, 2)), api.ErrOrder}, {set(nil, list(0, 2, 2, 2, 2, 2)), api.ErrOrder}, {set(nil, list(0, 2, 1, 5, 1, 4)), api.ErrOrder}, {set(list(1, 1), list(1, 3, 1, 3)), api.ErrOrder},
		{set(nil, list(1, 1)), api.ErrForm}, {set(nil, list(0, 1)), api.ErrForm}, {set(nil, list(lastPeer, 1)), api.ErrForm}, {set(list(1, 3), list(1, 4)), api.ErrForm}, {set(list(1, 3), list(1, 3)), api.ErrForm}, {set(list(1, 3), list(1, 1)), api.ErrForm}, {set(list(0, top-1), list(0, top)), api.ErrForm}, {set(list(0, top), list(0, top)), api.ErrForm}, {set(list(0, top), list(0, 2)), api.ErrForm}, {set(list(lastPeer, top-1), list(lastPeer, top)), api.ErrForm}, {set(list(0, 9), list(1, 1)), api.ErrForm}, {set(list(2, 1), list(1, 2, 2, 2)), api.ErrForm}, {set(list(1, 1, 2, 5), list(1, 3, 2, 6)), api.ErrForm}, {set(list(1, 1, 2, 5), list(1, 3, 1, 4, 2, 2)), api.ErrForm},
		// More than one of these at one dot: the peer, the count, the order, the form.
		{set(nil, list(64, 0)), api.ErrPeer}, {set(nil, list(-1, 1)), api.ErrPeer}, {set(nil, list(5, 3, -1, 0)), api.ErrPeer}, {set(nil, list(5, 3, 4, 0)), api.ErrCount}, {set(nil, list(5, 3, 4, top+1)), api.ErrCount}, {set(list(5, 1), list(5, 3, 5, 0)), api.ErrCount}, {set(nil, list(5, 3, 4, 1)), api.ErrOrder}, {set(nil, list(5, 3, 5, 1)), api.ErrOrder}, {set(list(5, 1), list(5, 3, 5, 2)), api.ErrOrder}, {set(list(4, 9), list(5, 3, 4, 2)), api.ErrOrder},
		// At two dots, in either order: the dot ahead tells.
		{set(nil, list(64, 2, 1, 0)), api.ErrPeer}, {set(nil, list(1, 0, 64, 2)), api.ErrCount}, {set(nil, list(1, 1, 64, 2)), api.ErrForm}, {set(nil, list(64, 2, 1, 1)), api.ErrPeer}, {set(nil, list(1, 1, 2, 0)), api.ErrForm}, {set(nil, list(1, 0, 2, 1)), api.ErrCount}, {set(nil, list(1, 1, 1, 1)), api.ErrForm}, {set(nil, list(2, 1, 1, 3)), api.ErrForm},
		{set(nil, list(1, 3, 1, 3, 64, 2)), api.ErrOrder}, {set(nil, list(1, 3, 64, 2, 1, 3)), api.ErrPeer}, {set(nil, list(1, 3, 1, 3, 2, 0)), api.ErrOrder}, {set(nil, list(1, 3, 2, 0, 1, 3)), api.ErrCount}, {set(nil, list(1, 3, 1, 3, 2, 1)), api.ErrOrder}, {set(nil, list(1, 3, 2, 1, 2, 1)), api.ErrForm},
		{set(allPeers(1), allPeers(2)), api.ErrForm}, {set(nil, append(allPeers(2), dot(0, 3))), api.ErrOrder}, {set(nil, append(allPeers(2), dot(lastPeer, 2))), api.ErrOrder}, {set(nil, make([]api.Dot, 1000)), api.ErrCount},
	}
}

// wrong are all of these.
func wrong() []broken {
	return append(brokenBases(), brokenExtras()...)
}

// few are sets that may be and sets that may not, of lists of up to two dots of some that matter.
func few() []Set {
	some := []api.Dot{{}, {Peer: -1, Count: 2}, {Peer: 64, Count: 3}, {Peer: 1}, {Peer: 1, Count: 1}, {Peer: 1, Count: 2}, {Peer: 1, Count: 3}, {Peer: 2, Count: 1}, {Peer: 2, Count: 2}, {Peer: 2, Count: 3}, {Peer: 2, Count: top + 1}}
	lists := [][]api.Dot{nil}
	for _, d := range some {
		lists = append(lists, []api.Dot{d})
		for _, e := range some {
			lists = append(lists, []api.Dot{d, e})
		}
	}
	var all []Set
	for _, base := range lists {
		for _, extra := range lists {
			all = append(all, set(base, extra))
		}
	}
	return all
}

// drawn are sets of few dots drawn, always the same ones: most may be, some may not.
func drawn(seed int64, count int) []Set {
	draw := rand.New(rand.NewSource(seed))
	odd := []api.Dot{{Peer: -1, Count: 2}, {Peer: 64, Count: 2}, {Peer: 3}, {Peer: 3, Count: -2}, {Peer: 3, Count: top + 1}, {Peer: 3, Count: 1}, {Peer: 2, Count: 5}}
	var sets []Set
	for range count {
		m := model{}
		peers, high := 1+draw.Intn(5), 2+draw.Intn(12)
		for range draw.Intn(2 * high) {
			m[dot(draw.Intn(peers)*lastPeer/4, 1+draw.Intn(high))] = true
		}
		s := m.set()
		if draw.Intn(4) == 0 {
			s.Extra = slices.Insert(s.Extra, draw.Intn(len(s.Extra)+1), odd[draw.Intn(len(odd))])
		}
		if draw.Intn(8) == 0 {
			s.Base = slices.Insert(s.Base, draw.Intn(len(s.Base)+1), odd[draw.Intn(len(odd))])
		}
		if draw.Intn(8) == 0 {
			draw.Shuffle(len(s.Extra), func(i, j int) { s.Extra[i], s.Extra[j] = s.Extra[j], s.Extra[i] })
		}
		sets = append(sets, s)
	}
	return sets
}

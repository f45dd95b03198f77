package sibling

import (
	"math"
	"math/rand"
	"slices"
	"strings"

	"hearsay/api"
)

const (
	lastPeer = 63
	top      = 1 << 20
)

// list is a list of dots, told by peers and counts.
func list(numbers ...int) []api.Dot {
	var dots []api.Dot
	for i := 0; i+1 < len(numbers); i += 2 {
		dots = append(dots, api.Dot{Peer: numbers[i], Count: numbers[i+1]})
	}
	return dots
}

// dot is a dot.
func dot(peer, count int) api.Dot {
	return api.Dot{Peer: peer, Count: count}
}

// live is a live version, its Past told by peers and counts.
func live(peer, count int, data string, past ...int) api.Version {
	return api.Version{Dot: dot(peer, count), Past: list(past...), Data: data}
}

// dead is one that is Dead.
func dead(peer, count int, past ...int) api.Version {
	return api.Version{Dot: dot(peer, count), Past: list(past...), Dead: true}
}

// leaf is a list of these versions.
func leaf(versions ...api.Version) []api.Version {
	return versions
}

// bytesOf is a text of so many bytes.
func bytesOf(count int) string {
	return strings.Repeat("d", count)
}

// allPeers are versions of all peers, each made by its peer.
func allPeers(make func(peer int) api.Version) []api.Version {
	var l []api.Version
	for peer := range 64 {
		l = append(l, make(peer))
	}
	return l
}

// sameVersion tells whether two versions are the same in all that they have.
func sameVersion(v, w api.Version) bool {
	return v.Dot == w.Dot && slices.Equal(v.Past, w.Past) && v.Dead == w.Dead && v.Data == w.Data
}

// same tells whether two lists of versions are the same.
func same(a, b []api.Version) bool {
	return slices.EqualFunc(a, b, sameVersion)
}

// dotWords tells by chapter 5's words why a dot may not be.
func dotWords(d api.Dot) api.Errno {
	switch {
	case d.Peer < 0 || d.Peer > 63:
		return api.ErrPeer
	case d.Count < 1 || d.Count > 1048576:
		return api.ErrCount
	}
	return api.OK
}

// vectorWords tells by chapter 5's words why a list is no vector.
func vectorWords(v []api.Dot) api.Errno {
	ahead := -1
	for _, d := range v {
		if err := dotWords(d); err != api.OK {
			return err
		}
		if d.Peer <= ahead {
			return api.ErrOrder
		}
		ahead = d.Peer
	}
	return api.OK
}

// hasWords tells by chapter 5's words whether a vector has a dot.
func hasWords(v []api.Dot, d api.Dot) bool {
	return vectorWords(v) == api.OK && d.Count >= 1 && slices.ContainsFunc(v, func(of api.Dot) bool {
		return of.Peer == d.Peer && of.Count >= d.Count
	})
}

// checkWords is what Check answers by the chapter's words.
func checkWords(v api.Version) api.Errno {
	if err := dotWords(v.Dot); err != api.OK {
		return err
	}
	if err := vectorWords(v.Past); err != api.OK {
		return err
	}
	if hasWords(v.Past, v.Dot) {
		return api.ErrOrder
	}
	if len(v.Data) > 48 {
		return api.ErrSize
	}
	if v.Dead && len(v.Data) > 0 {
		return api.ErrForm
	}
	return api.OK
}

// leafWords is what CheckLeaf answers by the chapter's words, each version held against each other one.
func leafWords(l []api.Version) api.Errno {
	if len(l) > 64 {
		return api.ErrSize
	}
	ahead := -1
	for _, v := range l {
		if err := checkWords(v); err != api.OK {
			return err
		}
		if v.Dot.Peer <= ahead {
			return api.ErrOrder
		}
		ahead = v.Dot.Peer
	}
	for i, v := range l {
		for j, w := range l {
			if i != j && hasWords(v.Past, w.Dot) {
				return api.ErrForm
			}
		}
	}
	return api.OK
}

// coverWords is what Cover answers by the chapter's words: of each peer the greatest count that is met.
func coverWords(l []api.Version) []api.Dot {
	if leafWords(l) != api.OK {
		return nil
	}
	var of [64]int
	for _, v := range l {
		for _, d := range append(list(v.Dot.Peer, v.Dot.Count), v.Past...) {
			of[d.Peer] = max(of[d.Peer], d.Count)
		}
	}
	var cover []api.Dot
	for peer, count := range of {
		if count > 0 {
			cover = append(cover, dot(peer, count))
		}
	}
	return cover
}

// writeWords is what Write answers by the chapter's words.
func writeWords(l []api.Version, d api.Dot, data string) ([]api.Version, api.Errno) {
	switch {
	case leafWords(l) != api.OK:
		return nil, leafWords(l)
	case dotWords(d) != api.OK:
		return nil, dotWords(d)
	case len(data) > 48:
		return nil, api.ErrSize
	case hasWords(coverWords(l), d):
		return nil, api.ErrOrder
	}
	return leaf(api.Version{Dot: d, Past: coverWords(l), Data: data}), api.OK
}

// eraseWords is what Erase answers by the chapter's words.
func eraseWords(l []api.Version, d api.Dot) ([]api.Version, api.Errno) {
	switch {
	case leafWords(l) != api.OK:
		return nil, leafWords(l)
	case dotWords(d) != api.OK:
		return nil, dotWords(d)
	case len(liveWords(l)) == 0:
		return nil, api.ErrNone
	case hasWords(coverWords(l), d):
		return nil, api.ErrOrder
	}
	return leaf(api.Version{Dot: d, Past: coverWords(l), Dead: true}), api.OK
}

// liveWords is what Live answers by the chapter's words.
func liveWords(l []api.Version) []api.Version {
	var left []api.Version
	for _, v := range l {
		if !v.Dead {
			left = append(left, v)
		}
	}
	return left
}

// winsWords is what Wins answers by the chapter's words: of two that are alike in all that counts, none wins.
func winsWords(a, b api.Version) bool {
	switch {
	case !a.Dead && b.Dead:
		return true
	case a.Dead && !b.Dead:
		return false
	case a.Dot.Count > b.Dot.Count:
		return true
	case a.Dot.Count < b.Dot.Count:
		return false
	}
	return a.Dot.Peer > b.Dot.Peer
}

// winnerWords is what Winner answers by the chapter's words: each live one is held against all others.
func winnerWords(l []api.Version) (api.Version, bool) {
	all := liveWords(l)
	for i, v := range all {
		wins := true
		for j, w := range all {
			first := v.Dot == w.Dot && i < j
			wins = wins && (i == j || first || winsWords(v, w))
		}
		if wins {
			return v, true
		}
	}
	return api.Version{}, false
}

// syncWords is what Sync answers by the chapter's words, peer by peer.
func syncWords(a, b []api.Version) []api.Version {
	if leafWords(a) != api.OK || leafWords(b) != api.OK {
		return nil
	}
	var synced []api.Version
	for peer := range 64 {
		ofA, ofB := leftOf(peer, a, b), leftOf(peer, b, a)
		switch {
		case len(ofA) > 0 && (len(ofB) == 0 || ofA[0].Dot.Count >= ofB[0].Dot.Count):
			synced = append(synced, ofA[0])
		case len(ofB) > 0:
			synced = append(synced, ofB[0])
		}
	}
	return synced
}

// leftOf is a peer's version in l, if none of l and of another leaf covers it.
func leftOf(peer int, l, other []api.Version) []api.Version {
	for _, v := range l {
		covers := func(w api.Version) bool { return hasWords(w.Past, v.Dot) }
		if v.Dot.Peer == peer && !slices.ContainsFunc(l, covers) && !slices.ContainsFunc(other, covers) {
			return leaf(v)
		}
	}
	return nil
}

// broken is a version that may not be, and the error that is due.
type broken struct {
	v   api.Version
	err api.Errno
}

// brokenVersions are versions that may not be.
func brokenVersions() []broken {
	full := make([]int, 0, 128)
	for peer := range 64 {
		full = append(full, peer, 1)
	}
	return []broken{
		// The Dot: its Peer, its Count, both.
		{live(-1, 1, "x"), api.ErrPeer}, {live(64, 1, "x"), api.ErrPeer}, {live(math.MinInt, 1, ""), api.ErrPeer}, {live(math.MaxInt, 1, ""), api.ErrPeer}, {dead(64, 1), api.ErrPeer}, {live(-1, 0, ""), api.ErrPeer}, {live(64, top+1, ""), api.ErrPeer},
		{api.Version{}, api.ErrCount}, {live(0, -1, "x"), api.ErrCount}, {live(0, top+1, "x"), api.ErrCount}, {live(lastPeer, 0, ""), api.ErrCount}, {live(lastPeer, top+1, ""), api.ErrCount}, {live(1, math.MinInt, ""), api.ErrCount}, {live(1, math.MaxInt, ""), api.ErrCount}, {dead(0, 0), api.ErrCount},
		// The Past is no vector: a Peer, a Count, the order; at its first dot and behind others.
		{live(0, 1, "x", -1, 1), api.ErrPeer}, {live(0, 1, "x", 64, 1), api.ErrPeer}, {live(0, 1, "x", 1, 1, 64, 1), api.ErrPeer}, {live(0, 1, "x", math.MinInt, 1), api.ErrPeer}, {dead(0, 1, 1, 1, math.MaxInt, 1), api.ErrPeer}, {live(0, 1, "x", 64, 0), api.ErrPeer}, {live(0, 1, "x", 2, 1, -1, 1), api.ErrPeer},
		{live(0, 1, "x", 1, 0), api.ErrCount}, {live(0, 1, "x", 1, -1), api.ErrCount}, {live(0, 1, "x", 1, top+1), api.ErrCount}, {live(0, 1, "x", 1, 1, 2, 0), api.ErrCount}, {dead(0, 1, 2, 1, 1, 0), api.ErrCount}, {live(0, 1, "", 0, 0), api.ErrCount}, {live(0, 1, "", 1, 0, 64, 1), api.ErrCount},
		{live(0, 1, "x", 1, 1, 1, 1), api.ErrOrder}, {live(0, 1, "x", 1, 1, 1, 2), api.ErrOrder}, {live(0, 1, "x", 2, 1, 1, 1), api.ErrOrder}, {dead(0, 1, lastPeer, 1, 1, 1), api.ErrOrder}, {live(0, 1, "x", 1, 1, 3, 1, 2, 1), api.ErrOrder}, {live(0, 1, "x", 2, 1, 1, 1, 64, 1), api.ErrOrder}, {live(0, 2, "", append(slices.Clone(full), 0, 1)...), api.ErrOrder},
		// The Past has the Dot: just that one, or more of its peer, among other peers.
		{live(0, 1, "x", 0, 1), api.ErrOrder}, {live(0, 1, "x", 0, 2), api.ErrOrder}, {live(0, 7, "x", 0, 7), api.ErrOrder}, {live(0, top, "x", 0, top), api.ErrOrder}, {live(lastPeer, top-1, "", lastPeer, top), api.ErrOrder}, {dead(lastPeer, 1, lastPeer, 1), api.ErrOrder}, {live(5, 3, "x", 0, 1, 5, 3, 7, 1), api.ErrOrder}, {dead(5, 3, 0, 9, 5, 4, 7, 9), api.ErrOrder}, {live(31, 1, "x", full...), api.ErrOrder},
		// The Data: too much; Dead with some.
		{live(0, 1, bytesOf(49)), api.ErrSize}, {live(lastPeer, top, bytesOf(49), 0, 1), api.ErrSize}, {live(0, 1, bytesOf(1000)), api.ErrSize}, {live(0, 1, strings.Repeat("\u00e9", 25)), api.ErrSize}, {live(0, 1, strings.Repeat("\x00", 49)), api.ErrSize},
		{withData(dead(0, 1), "x"), api.ErrForm}, {withData(dead(0, 1), "\x00"), api.ErrForm}, {withData(dead(0, 1), bytesOf(48)), api.ErrForm}, {withData(dead(lastPeer, top, 0, 1), " "), api.ErrForm},
		// More than one of these: the Dot, the Past, the Dot in the Past, too much, Dead with some.
		{live(64, 1, bytesOf(49), 1, 0), api.ErrPeer}, {live(0, 0, bytesOf(49), -1, 1), api.ErrCount}, {withData(dead(0, 0, 1, 1, 1, 1), "x"), api.ErrCount}, {withData(dead(-1, 1, 1, 1), "x"), api.ErrPeer}, {live(0, 0, "", 0, 1), api.ErrCount}, {live(0, top+1, "", 0, top), api.ErrCount},
		{live(0, 1, "", 0, 1, 64, 1), api.ErrPeer}, {live(0, 1, "", 0, 1, 1, 0), api.ErrCount}, {live(0, 1, bytesOf(49), 1, 0), api.ErrCount}, {live(0, 1, bytesOf(49), 2, 1, 1, 1), api.ErrOrder}, {withData(dead(0, 1, 64, 1), "x"), api.ErrPeer}, {withData(dead(0, 1, 2, 1, 2, 1), "x"), api.ErrOrder},
		{live(0, 1, bytesOf(49), 0, 1), api.ErrOrder}, {withData(dead(0, 1, 0, 1), "x"), api.ErrOrder}, {withData(dead(0, 1, 0, 1), bytesOf(49)), api.ErrOrder}, {withData(dead(0, 1), bytesOf(49)), api.ErrSize},
	}
}

// withData is a version with other data.
func withData(v api.Version, data string) api.Version {
	v.Data = data
	return v
}

// brokenLeaf is a leaf that may not be, and the error that is due.
type brokenLeaf struct {
	l   []api.Version
	err api.Errno
}

// brokenLeaves are leaves that may not be, those of one broken version among them.
func brokenLeaves() []brokenLeaf {
	one := func(peer int) api.Version { return live(peer, 1, "x") }
	x, y, z := live(0, 1, "x"), live(1, 1, "y"), live(2, 1, "z")
	overX, bad, big := live(1, 1, "o", 0, 1), live(2, 0, "b"), live(2, 1, bytesOf(49))
	all := []brokenLeaf{
		// Too many, whatever they are.
		{append(allPeers(one), one(lastPeer)), api.ErrSize}, {append(allPeers(one), one(64)), api.ErrSize}, {make([]api.Version, 65), api.ErrSize}, {make([]api.Version, 5000), api.ErrSize}, {append(leaf(bad), allPeers(one)...), api.ErrSize},
		// As many as may be, the last one wrong; many that are all wrong.
		{append(allPeers(one)[:63], one(64)), api.ErrPeer}, {append(allPeers(one)[:63], live(lastPeer, 0, "")), api.ErrCount}, {append(allPeers(one)[:63], one(62)), api.ErrOrder}, {append(allPeers(one)[:63], live(lastPeer, 1, "", 0, 1)), api.ErrForm}, {make([]api.Version, 64), api.ErrCount},
		// The order: peers that fall, that stand twice.
		{leaf(y, x), api.ErrOrder}, {leaf(x, x), api.ErrOrder}, {leaf(x, live(0, 2, "x")), api.ErrOrder}, {leaf(live(0, 2, "x"), x), api.ErrOrder}, {leaf(x, live(0, 2, "x", 0, 1)), api.ErrOrder}, {leaf(x, z, y), api.ErrOrder}, {leaf(x, y, y), api.ErrOrder}, {leaf(x, y, x), api.ErrOrder}, {leaf(dead(lastPeer, 1), dead(lastPeer, 2)), api.ErrOrder}, {leaf(live(lastPeer, 1, ""), live(0, 1, "")), api.ErrOrder},
		// A wrong version and a wrong order: what is ahead tells; at one place the version does.
		{leaf(y, x, bad), api.ErrOrder}, {leaf(y, bad, x), api.ErrCount}, {leaf(bad, y, x), api.ErrCount}, {leaf(y, live(0, 0, "")), api.ErrCount}, {leaf(y, withData(y, bytesOf(49))), api.ErrSize}, {leaf(y, withData(dead(0, 1), "x")), api.ErrForm}, {leaf(y, live(-1, 1, "")), api.ErrPeer}, {leaf(x, x, big), api.ErrOrder}, {leaf(x, big, big), api.ErrSize}, {leaf(big, x), api.ErrSize}, {leaf(z, live(1, 1, "", 1, 1)), api.ErrOrder},
		// Two wrong versions: the one ahead tells.
		{leaf(live(0, 0, ""), live(64, 1, "")), api.ErrCount}, {leaf(x, live(1, 1, "", 64, 1), big), api.ErrPeer}, {leaf(x, live(1, 1, bytesOf(49)), bad), api.ErrSize}, {leaf(withData(dead(0, 1), "x"), big), api.ErrForm}, {leaf(live(0, 1, "", 0, 1), bad), api.ErrOrder},
		// One that covers another one: a later one, one ahead, one another; by just its Dot, by more.
		{leaf(x, overX), api.ErrForm}, {leaf(live(0, 1, "", 1, 1), y), api.ErrForm}, {leaf(live(0, 1, "", 1, 1), live(1, 1, "", 0, 1)), api.ErrForm}, {leaf(x, live(1, 1, "", 0, 9)), api.ErrForm}, {leaf(live(0, 3, ""), live(1, 1, "", 0, 3)), api.ErrForm}, {leaf(live(0, 1, "", lastPeer, top), live(lastPeer, top, "")), api.ErrForm}, {leaf(live(0, top, ""), live(lastPeer, 1, "", 0, top)), api.ErrForm}, {leaf(dead(0, 1), dead(1, 1, 0, 1)), api.ErrForm}, {leaf(dead(0, 1), live(1, 1, "", 0, 1)), api.ErrForm}, {leaf(x, y, live(2, 1, "", 1, 1)), api.ErrForm}, {leaf(x, y, live(2, 1, "", 0, 1, 1, 1)), api.ErrForm}, {leaf(x, live(1, 1, "", 2, 1), z), api.ErrForm}, {leaf(live(0, 1, "", 2, 7), y, live(2, 7, "")), api.ErrForm},
		// One that covers another one, and a wrong one: that tells, be it behind or ahead.
		{leaf(x, overX, bad), api.ErrCount}, {leaf(live(0, 0, ""), y, live(2, 1, "", 1, 1)), api.ErrCount}, {leaf(x, overX, big), api.ErrSize}, {leaf(x, overX, live(1, 2, "")), api.ErrOrder}, {leaf(y, x, live(2, 1, "", 0, 1)), api.ErrOrder}, {leaf(x, overX, x), api.ErrOrder}, {leaf(x, overX, live(64, 1, "")), api.ErrPeer}, {leaf(x, live(1, 1, bytesOf(49), 0, 1)), api.ErrSize}, {leaf(x, live(1, 1, "", 0, 1, 0, 1)), api.ErrOrder}, {leaf(x, live(1, 1, "", 0, 1, 2, 0)), api.ErrCount},
	}
	for _, c := range brokenVersions() {
		all = append(all, brokenLeaf{leaf(c.v), c.err})
	}
	return all
}

// edges are leaves that may be, at the limits and of each kind.
func edges() [][]api.Version {
	past := func(count int) func(int) api.Version {
		return func(peer int) api.Version {
			v := api.Version{Dot: dot(peer, 3), Data: bytesOf(peer % 49), Dead: peer%49 == 0}
			for other := range 64 {
				if count > 0 {
					v.Past = append(v.Past, dot(other, count))
				}
			}
			return v
		}
	}
	return [][]api.Version{
		nil, {}, make([]api.Version, 0, 4),
		leaf(live(0, 1, "x")), leaf(live(0, 1, "")), leaf(live(0, 1, bytesOf(48))), leaf(dead(0, 1)), leaf(live(lastPeer, 1, "x")), leaf(live(0, top, "x")), leaf(live(lastPeer, top, "\x00\xff")), leaf(dead(lastPeer, top)), leaf(live(0, 1, strings.Repeat("\u00e9", 24))),
		leaf(live(0, 2, "x", 0, 1)), leaf(live(0, top, "x", 0, top-1)), leaf(live(lastPeer, 7, "", 0, top, lastPeer, 6)), leaf(dead(1, 1, 0, 1)), leaf(live(0, 1, "x", 1, top, lastPeer, top)), leaf(api.Version{Dot: dot(4, 1), Past: []api.Dot{}}),
		leaf(live(0, 1, "x"), live(1, 1, "y")), leaf(live(0, 2, "y", 0, 1), live(1, 1, "o", 0, 1)), leaf(live(0, 1, "x"), dead(lastPeer, 1)), leaf(dead(0, 1), dead(1, 1)), leaf(live(0, 2, ""), live(lastPeer, 1, "", 0, 1)), leaf(live(0, top, "", lastPeer, top-1), live(lastPeer, top, "", 0, top-1)), leaf(live(3, 1, "a", 0, 9, 5, 1), dead(5, 2, 0, 7, 9, 9), live(8, 4, "c", 5, 1, 8, 3)),
		allPeers(func(peer int) api.Version { return live(peer, 1, "x") }), allPeers(func(peer int) api.Version { return dead(peer, top) }), allPeers(past(0)), allPeers(past(2)),
	}
}

// few are versions of each kind, those that may be and those that may not.
func few() []api.Version {
	dots := list(-1, 1, 64, 1, 0, 0, 0, 1, 0, 2, 1, 1, 1, 2, lastPeer, 1)
	pasts := [][]api.Dot{nil, list(0, 1), list(0, 2), list(1, 1), list(0, 1, 1, 1), list(lastPeer, 1), list(1, 1, 0, 1), list(0, 0)}
	kinds := []api.Version{{Data: "x"}, {}, {Dead: true}, {Dead: true, Data: "x"}, {Data: bytesOf(49)}}
	var all []api.Version
	for _, d := range dots {
		for _, past := range pasts {
			for _, v := range kinds {
				v.Dot, v.Past = d, past
				all = append(all, v)
			}
		}
	}
	return all
}

// ofPeer are versions of a peer, of each Count and each Past of few counts, of peers that are told.
func ofPeer(peer, high int, peers []int) []api.Version {
	var all []api.Version
	for count := 1; count <= high; count++ {
		pasts := [][]api.Dot{nil}
		for _, other := range peers {
			most := high
			if other == peer {
				most = count - 1
			}
			for _, past := range slices.Clone(pasts) {
				for of := 1; of <= most; of++ {
					pasts = append(pasts, append(slices.Clone(past), dot(other, of)))
				}
			}
		}
		for i, past := range pasts {
			v := api.Version{Dot: dot(peer, count), Past: past, Dead: (i+count)%4 == 0}
			if !v.Dead {
				v.Data = strings.Repeat("s", i)
			}
			all = append(all, v)
		}
	}
	return all
}

// small are all leaves that may be of versions of these peers, with counts up to so many.
func small(high int, peers ...int) [][]api.Version {
	all := [][]api.Version{nil}
	for _, peer := range peers {
		for _, l := range slices.Clone(all) {
			for _, v := range ofPeer(peer, high, peers) {
				if more := append(slices.Clone(l), v); leafWords(more) == api.OK {
					all = append(all, more)
				}
			}
		}
	}
	return all
}

// drawnVersion is a version that is drawn: of few peers and counts, now and then with something odd.
func drawnVersion(draw *rand.Rand, peer, high int) api.Version {
	v := api.Version{Dot: dot(peer, 1+draw.Intn(high)), Dead: draw.Intn(3) == 0}
	if !v.Dead {
		v.Data = bytesOf(draw.Intn(49))
	}
	for other := 0; other <= lastPeer; other += 9 {
		count := draw.Intn(high)
		if other == peer {
			count = min(count, v.Dot.Count-1)
		}
		if count > 0 && draw.Intn(2) == 0 {
			v.Past = append(v.Past, dot(other, count))
		}
	}
	return v
}

// drawn are leaves that are drawn, always the same ones: most may be, some may not.
func drawn(seed int64, count int) [][]api.Version {
	draw := rand.New(rand.NewSource(seed))
	odd := brokenVersions()
	var all [][]api.Version
	for range count {
		var l []api.Version
		high := 1 + draw.Intn(6)
		for peer := 0; peer <= lastPeer; peer += 9 {
			// What is covered is left out mostly, so that most leaves may be.
			v := drawnVersion(draw, peer, high)
			if more := append(slices.Clone(l), v); draw.Intn(2) == 0 && (leafWords(more) == api.OK || draw.Intn(40) == 0) {
				l = more
			}
		}
		if draw.Intn(8) == 0 {
			l = slices.Insert(l, draw.Intn(len(l)+1), odd[draw.Intn(len(odd))].v)
		}
		if draw.Intn(12) == 0 {
			draw.Shuffle(len(l), func(i, j int) { l[i], l[j] = l[j], l[i] })
		}
		all = append(all, l)
	}
	return all
}

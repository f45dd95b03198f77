package matrix

import (
	"math"
	"math/rand"
	"slices"
	"testing"

	"hearsay/api"
)

const (
	lastPeer = 63
	top      = 1 << 20
)

// list is a list of dots, told by peers and counts.
func list(numbers ...int) []api.Dot {
	var dots []api.Dot
	for i := 0; i+1 < len(numbers); i += 2 {
		dots = append(dots, api.Dot{Peer: numbers[i], Count: numbers[i+1]})
	}
	return dots
}

// dot is a dot.
func dot(peer, count int) api.Dot {
	return api.Dot{Peer: peer, Count: count}
}

// allPeers is a vector of the first peers, each of the same count.
func allPeers(peers, count int) []api.Dot {
	var v []api.Dot
	for peer := range peers {
		v = append(v, dot(peer, count))
	}
	return v
}

// rows are rows, as they are.
func rows(all ...[]api.Dot) [][]api.Dot {
	return all
}

// same tells whether rows are the same, an empty one and nil, too.
func same(a, b [][]api.Dot) bool {
	return slices.EqualFunc(a, b, slices.Equal)
}

// cloned are rows in memory of their own.
func cloned(all [][]api.Dot) [][]api.Dot {
	var clones [][]api.Dot
	for _, row := range all {
		clones = append(clones, slices.Clone(row))
	}
	return clones
}

// of is a matrix of these rows.
func of(t *testing.T, all ...[]api.Dot) *Matrix {
	t.Helper()
	m := New(len(all))
	if m == nil {
		t.Fatalf("no matrix of %d", len(all))
	}
	for peer, row := range all {
		if err := m.Learn(peer, row); err != api.OK {
			t.Fatalf("Learn of %d and %v is %v", peer, row, err)
		}
	}
	return m
}

// vectorWords tells by chapter 5's words why a list is no vector.
func vectorWords(v []api.Dot) api.Errno {
	ahead := -1
	for _, d := range v {
		switch {
		case d.Peer < 0 || d.Peer > 63:
			return api.ErrPeer
		case d.Count < 1 || d.Count > 1048576:
			return api.ErrCount
		case d.Peer <= ahead:
			return api.ErrOrder
		}
		ahead = d.Peer
	}
	return api.OK
}

// model is a matrix by the chapter's words: of each of peers, how many changes of each it has.
type model struct {
	peers  int
	counts [64][64]int
}

// learnWords tells by the chapter's words why a row is not learnt.
func (m *model) learnWords(peer int, v []api.Dot) api.Errno {
	if peer < 0 || peer >= m.peers {
		return api.ErrPeer
	}
	if err := vectorWords(v); err != api.OK {
		return err
	}
	for _, d := range v {
		if d.Peer >= m.peers {
			return api.ErrPeer
		}
	}
	return api.OK
}

// learn learns a row, if it may be.
func (m *model) learn(peer int, v []api.Dot) api.Errno {
	if err := m.learnWords(peer, v); err != api.OK {
		return err
	}
	for _, d := range v {
		if m.counts[peer][d.Peer] < d.Count {
			m.counts[peer][d.Peer] = d.Count
		}
	}
	return api.OK
}

// merge learns all rows, if all may be.
func (m *model) merge(all [][]api.Dot) api.Errno {
	if len(all) != m.peers {
		return api.ErrSize
	}
	before := *m
	for peer, row := range all {
		if err := m.learn(peer, row); err != api.OK {
			*m = before
			return err
		}
	}
	return api.OK
}

// vector is the vector of counts.
func vector(counts [64]int) []api.Dot {
	var v []api.Dot
	for peer, count := range counts {
		if count > 0 {
			v = append(v, dot(peer, count))
		}
	}
	return v
}

// rows are all rows.
func (m *model) rows() [][]api.Dot {
	var all [][]api.Dot
	for peer := range m.peers {
		all = append(all, vector(m.counts[peer]))
	}
	return all
}

// stable are the counts that all rows have.
func (m *model) stable() [64]int {
	least := m.counts[0]
	for peer := 1; peer < m.peers; peer++ {
		for of, count := range m.counts[peer] {
			least[of] = min(least[of], count)
		}
	}
	return least
}

// steady tells whether all rows have a dot.
func (m *model) steady(d api.Dot) bool {
	return d.Peer >= 0 && d.Peer < 64 && d.Count >= 1 && d.Count <= m.stable()[d.Peer]
}

// broken is a list, and why it is none of a matrix of three peers.
type broken struct {
	v   []api.Dot
	err api.Errno
}

// wrong are lists that a matrix of three peers can't learn: no vectors, in each way, and vectors of other peers; and of more than one fault the one that is due.
func wrong() []broken {
	return []broken{
		// No peer, of any matrix.
		{list(-1, 1), api.ErrPeer}, {list(64, 1), api.ErrPeer}, {list(math.MinInt, 1), api.ErrPeer}, {list(math.MaxInt, 1), api.ErrPeer}, {list(0, 1, 64, 1), api.ErrPeer}, {list(0, 1, -1, 1), api.ErrPeer}, {list(0, 1, 1, 1, 2, 1, 64, 1), api.ErrPeer},
		// No count.
		{list(0, 0), api.ErrCount}, {list(2, 0), api.ErrCount}, {list(0, -1), api.ErrCount}, {list(0, top+1), api.ErrCount}, {list(0, math.MinInt), api.ErrCount}, {list(0, math.MaxInt), api.ErrCount}, {list(0, 1, 1, 0), api.ErrCount}, {list(0, 1, 2, top+1), api.ErrCount},
		// No order.
		{list(0, 1, 0, 1), api.ErrOrder}, {list(0, 1, 0, 2), api.ErrOrder}, {list(1, 1, 0, 1), api.ErrOrder}, {list(0, 1, 2, 1, 1, 1), api.ErrOrder}, {list(0, 1, 2, 1, 2, 1), api.ErrOrder},
		// A vector, of a peer that the matrix has not.
		{list(3, 1), api.ErrPeer}, {list(0, 1, 3, 1), api.ErrPeer}, {list(2, top, 3, top), api.ErrPeer}, {list(lastPeer, 1), api.ErrPeer}, {list(3, 1, 4, 1, lastPeer, 1), api.ErrPeer}, {allPeers(4, 1), api.ErrPeer}, {allPeers(64, top), api.ErrPeer},
		// More than one: a list that is no vector goes ahead of a peer that the matrix has not, wherever that one stands.
		{list(3, 0), api.ErrCount}, {list(3, 1, 0, 1), api.ErrOrder}, {list(3, 1, 3, 1), api.ErrOrder}, {list(3, 1, 4, 0), api.ErrCount}, {list(3, 1, 4, top+1), api.ErrCount}, {list(lastPeer, 1, 0, 0), api.ErrCount}, {list(lastPeer, 1, lastPeer, 1), api.ErrOrder}, {list(0, 0, 3, 1), api.ErrCount}, {list(1, 1, 0, 1, 3, 1), api.ErrOrder}, {list(3, 1, 64, 1), api.ErrPeer}, {list(0, 1, 0, 0), api.ErrCount}, {list(0, 0, -1, 1), api.ErrCount}, {list(-1, 0), api.ErrPeer}, {list(64, 0, 0, 0), api.ErrPeer}, {list(1, 1, 0, 1, 64, 1), api.ErrOrder}, {list(1, 1, 64, 0, 0, 1), api.ErrPeer},
	}
}

// noPeers are numbers that no matrix of three peers has a peer of.
func noPeers() []int {
	return []int{3, 4, lastPeer, 64, 65, -1, -2, -64, math.MinInt, math.MaxInt, math.MinInt32, math.MaxInt32, 1 << 32, 1<<32 + 1}
}

// drawnVector is a vector of a few peers, drawn; now and then one that may not be, or of a peer beyond.
func drawnVector(r *rand.Rand, peers int) []api.Dot {
	counts := []int{1, 2, 3, 4, 5, 6, 7, top - 1, top}
	var v []api.Dot
	for peer := range peers {
		if r.Intn(min(peers, 5)+1) < 2 {
			v = append(v, dot(peer, counts[r.Intn(len(counts))]))
		}
	}
	if len(v) > 0 && r.Intn(12) == 0 {
		at := r.Intn(len(v))
		v[at] = []api.Dot{dot(-1, 1), dot(64, 1), dot(v[at].Peer, 0), dot(v[at].Peer, top+1), dot(0, 1), dot(lastPeer, 2), dot(peers, 1)}[r.Intn(7)]
	}
	if r.Intn(20) == 0 {
		v = append(v, dot(peers+r.Intn(2), 1+r.Intn(9)))
	}
	return v
}

package matrix

import (
	"math"
	"math/rand"
	"slices"
	"sync"
	"testing"

	"hearsay/api"
)

// 8.1: of how many peers there is a matrix, each without changes.
func TestNew(t *testing.T) {
	for peers := -3; peers <= 70; peers++ {
		m := New(peers)
		if peers < 1 || peers > 64 {
			if m != nil {
				t.Errorf("a matrix of %d", peers)
			}
			continue
		}
		if m == nil || m.Peers() != peers || !same(m.Rows(), make([][]api.Dot, peers)) || len(m.Stable()) != 0 {
			t.Fatalf("a matrix of %d peers is %v", peers, m)
		}
		for peer := range peers {
			if len(m.Row(peer)) != 0 || m.Steady(dot(peer, 1)) {
				t.Errorf("peer %d of %d has %v", peer, peers, m.Row(peer))
			}
		}
	}
	for _, peers := range []int{0, -1, 65, 128, 256, 256 + 1, 1 << 16, 1<<16 + 1, math.MinInt32, math.MaxInt32, 1<<32 + 1, 1<<32 + 64, math.MinInt, math.MinInt + 1, math.MaxInt} {
		if New(peers) != nil {
			t.Errorf("a matrix of %d", peers)
		}
	}
}

// 8.1: two matrices have nothing in common.
func TestNewAlone(t *testing.T) {
	m, other := New(2), New(2)
	if m.Learn(1, list(0, 3)) != api.OK || !same(other.Rows(), rows(nil, nil)) || !same(m.Rows(), rows(nil, list(0, 3))) {
		t.Errorf("%v beside %v", other.Rows(), m.Rows())
	}
}

// 8.1: rows, one by one and all, in order; and none of a peer that there is not.
func TestRow(t *testing.T) {
	all := rows(list(0, 3, 2, 1), nil, list(1, top))
	m := of(t, all...)
	for peer, row := range all {
		if got := m.Row(peer); !slices.Equal(got, row) {
			t.Errorf("row %d is %v", peer, got)
		}
	}
	if !same(m.Rows(), all) || m.Peers() != 3 {
		t.Errorf("%v of %d peers", m.Rows(), m.Peers())
	}
	for _, peer := range noPeers() {
		if got := m.Row(peer); len(got) != 0 {
			t.Errorf("row %d is %v", peer, got)
		}
	}
	for _, peers := range []int{1, 2, 63, 64} {
		m := New(peers)
		for peer := range peers {
			if m.Learn(peer, list(peers-1, peer+1)) != api.OK {
				t.Fatalf("%d of %d", peer, peers)
			}
		}
		for peer := range peers {
			if want := list(peers-1, peer+1); !slices.Equal(m.Row(peer), want) || !slices.Equal(m.Rows()[peer], want) {
				t.Errorf("row %d of %d is %v", peer, peers, m.Row(peer))
			}
		}
		if len(m.Rows()) != peers || len(m.Row(peers)) != 0 || len(m.Row(-1)) != 0 {
			t.Errorf("%d rows of %d", len(m.Rows()), peers)
		}
	}
}

// 8.2: what a row is behind vectors that are learnt, one behind the other, written down.
func TestLearnTable(t *testing.T) {
	for _, c := range []struct {
		peers  int
		learnt [][]api.Dot
		want   []api.Dot
	}{
		{3, rows(nil), nil}, {3, rows(nil, []api.Dot{}), nil}, {3, rows(list(0, 1)), list(0, 1)}, {3, rows(list(2, 1)), list(2, 1)}, {3, rows(list(0, top)), list(0, top)}, {3, rows(list(2, top)), list(2, top)},
		{3, rows(list(0, 2), nil), list(0, 2)}, {3, rows(list(0, 2), []api.Dot{}), list(0, 2)}, {3, rows(list(0, 2), list(0, 2)), list(0, 2)}, {3, rows(list(0, 2), list(0, 1)), list(0, 2)}, {3, rows(list(0, 2), list(0, 3)), list(0, 3)}, {3, rows(list(0, top), list(0, 1)), list(0, top)}, {3, rows(list(0, 1), list(0, top)), list(0, top)}, {3, rows(list(0, top-1), list(0, top)), list(0, top)},
		// Less here, more there; and peers ahead of the ones that there are, between them and behind.
		{3, rows(list(0, 2, 1, 5), list(0, 4, 1, 3)), list(0, 4, 1, 5)}, {3, rows(list(0, 2, 1, 5), list(0, 1, 1, 6, 2, 1)), list(0, 2, 1, 6, 2, 1)}, {3, rows(list(1, 1), list(0, 1)), list(0, 1, 1, 1)}, {3, rows(list(0, 1, 2, 1), list(1, 9)), list(0, 1, 1, 9, 2, 1)}, {3, rows(list(0, 1), list(2, 7)), list(0, 1, 2, 7)}, {3, rows(list(2, 1), list(1, 1), list(0, 1)), allPeers(3, 1)}, {3, rows(list(0, 3, 1, 3), list(1, 2, 2, 2)), list(0, 3, 1, 3, 2, 2)},
		// Of one peer, and of as many as there may be.
		{1, rows(list(0, 7), list(0, 5), list(0, 9)), list(0, 9)}, {1, rows(list(0, top)), list(0, top)}, {64, rows(list(lastPeer, 1)), list(lastPeer, 1)}, {64, rows(allPeers(64, 1), list(lastPeer, top)), append(allPeers(63, 1), dot(lastPeer, top))}, {64, rows(allPeers(64, top), allPeers(64, 1)), allPeers(64, top)}, {63, rows(allPeers(63, 4)), allPeers(63, 4)},
	} {
		for _, peer := range []int{0, c.peers / 2, c.peers - 1} {
			m := New(c.peers)
			want := make([][]api.Dot, c.peers)
			for _, v := range c.learnt {
				if err := m.Learn(peer, v); err != api.OK {
					t.Errorf("Learn of %v is %v", v, err)
				}
			}
			want[peer] = c.want
			if !same(m.Rows(), want) || !slices.Equal(m.Row(peer), c.want) {
				t.Errorf("%v come to %v at %d", c.learnt, m.Rows(), peer)
			}
		}
	}
}

// before are rows of three peers, that no fault changes.
func before() [][]api.Dot {
	return rows(list(0, 3, 1, 2), list(1, 1, 2, top), list(0, 1, 1, 1, 2, 1))
}

// 8.2: what can't be learnt, with the error that is due, and that nothing changes then (R2).
func TestLearnWrong(t *testing.T) {
	m := of(t, before()...)
	for _, c := range wrong() {
		for peer := range 3 {
			if err := m.Learn(peer, c.v); err != c.err {
				t.Errorf("Learn of %d and %v is %v, not %v", peer, c.v, err, c.err)
			}
		}
		// A peer that there is not goes ahead of all that is wrong with the vector.
		for _, peer := range noPeers() {
			if err := m.Learn(peer, c.v); err != api.ErrPeer {
				t.Errorf("Learn of %d and %v is %v", peer, c.v, err)
			}
		}
		if !same(m.Rows(), before()) {
			t.Fatalf("behind %v: %v", c.v, m.Rows())
		}
	}
	for _, peer := range noPeers() {
		for _, v := range rows(nil, []api.Dot{}, list(0, 1), list(2, top), allPeers(3, 7)) {
			if err := m.Learn(peer, v); err != api.ErrPeer {
				t.Errorf("Learn of %d and %v is %v", peer, v, err)
			}
		}
	}
	if !same(m.Rows(), before()) {
		t.Errorf("behind peers that there are not: %v", m.Rows())
	}
}

// 8.2: of each number of peers, the last one's count is learnt, and that of the one behind it is not; nor by the one behind it.
func TestLearnLastPeer(t *testing.T) {
	for peers := 1; peers <= 64; peers++ {
		m := New(peers)
		want := make([][]api.Dot, peers)
		for _, count := range []int{1, top} {
			if err := m.Learn(peers-1, list(peers-1, count)); err != api.OK {
				t.Errorf("of %d: %v", peers, err)
			}
			want[peers-1] = list(peers-1, count)
			for _, beyond := range rows(list(peers, count), list(peers-1, count, peers, count)) {
				if err := m.Learn(0, beyond); err != api.ErrPeer {
					t.Errorf("of %d, %v: %v", peers, beyond, err)
				}
			}
			if err := m.Learn(peers, list(peers-1, count)); err != api.ErrPeer {
				t.Errorf("peer %d of %d: %v", peers, peers, err)
			}
			if !same(m.Rows(), want) {
				t.Errorf("of %d: %v", peers, m.Rows())
			}
		}
	}
}

// 8.2: what rows come to with others, written down.
func TestMergeTable(t *testing.T) {
	for _, c := range []struct{ was, merged, want [][]api.Dot }{
		{before(), rows(nil, nil, nil), before()}, {before(), rows([]api.Dot{}, nil, []api.Dot{}), before()}, {before(), before(), before()}, {make([][]api.Dot, 3), before(), before()}, {make([][]api.Dot, 3), make([][]api.Dot, 3), make([][]api.Dot, 3)},
		// A row alone: the first one, the midst, the last one.
		{before(), rows(list(0, 4), nil, nil), rows(list(0, 4, 1, 2), before()[1], before()[2])}, {before(), rows(nil, list(0, 4), nil), rows(before()[0], list(0, 4, 1, 1, 2, top), before()[2])}, {before(), rows(nil, nil, list(2, 9)), rows(before()[0], before()[1], list(0, 1, 1, 1, 2, 9))},
		// Each with something of its own; more here, less there.
		{before(), rows(list(2, 1), list(0, 2, 1, 3, 2, 3), list(0, 5)), rows(list(0, 3, 1, 2, 2, 1), list(0, 2, 1, 3, 2, top), list(0, 5, 1, 1, 2, 1))}, {before(), rows(list(0, 2, 1, 9), list(1, 1), list(1, top)), rows(list(0, 3, 1, 9), list(1, 1, 2, top), list(0, 1, 1, top, 2, 1))},
		{rows(nil), rows(list(0, 1)), rows(list(0, 1))}, {rows(list(0, 5)), rows(list(0, top)), rows(list(0, top))}, {rows(list(0, 5)), rows(nil), rows(list(0, 5))}, {rows(list(0, 3), list(0, 2, 1, 1)), rows(list(1, 1), list(0, 3)), rows(list(0, 3, 1, 1), list(0, 3, 1, 1))},
	} {
		m := of(t, c.was...)
		for range 2 {
			if err := m.Merge(c.merged); err != api.OK || !same(m.Rows(), c.want) {
				t.Errorf("%v with %v is %v, %v", c.was, c.merged, m.Rows(), err)
			}
		}
	}
}

// 8.2: as many rows as peers are merged, one less and one more are not.
func TestMergeSize(t *testing.T) {
	for peers := 1; peers <= 64; peers++ {
		m := New(peers)
		var all [][]api.Dot
		for peer := range peers {
			all = append(all, list(peer, peer+1))
		}
		for _, count := range []int{0, 1, peers - 1, peers + 1, peers + 2, 64, 65, 1000} {
			if count == peers {
				continue
			}
			// Sizes go ahead of what is wrong with rows.
			for _, row := range rows(nil, list(0, 1), list(0, 0), list(64, 1)) {
				if err := m.Merge(slices.Repeat(rows(row), count)); err != api.ErrSize {
					t.Errorf("%d rows for %d peers: %v", count, peers, err)
				}
			}
		}
		for _, other := range [][][]api.Dot{nil, {}, all[:peers-1], append(slices.Clone(all), nil), append(slices.Clone(all), list(0, 1))} {
			if err := m.Merge(other); err != api.ErrSize {
				t.Errorf("%d rows for %d peers: %v", len(other), peers, err)
			}
		}
		if !same(m.Rows(), make([][]api.Dot, peers)) {
			t.Fatalf("of %d peers: %v", peers, m.Rows())
		}
		if err := m.Merge(all); err != api.OK || !same(m.Rows(), all) {
			t.Errorf("of %d peers: %v, %v", peers, err, m.Rows())
		}
	}
}

// 8.2: of rows of which one is wrong, wherever it stands, the error is its; of more, the first one's; and no row is changed.
func TestMergeWrong(t *testing.T) {
	m := of(t, before()...)
	right := rows(list(0, 9, 2, 9), list(0, 9), allPeers(3, 9))
	hold := func(all [][]api.Dot, want api.Errno) {
		t.Helper()
		if err := m.Merge(all); err != want {
			t.Errorf("Merge of %v is %v, not %v", all, err, want)
		}
		if !same(m.Rows(), before()) || m.Steady(dot(1, 2)) {
			t.Fatalf("behind %v: %v", all, m.Rows())
		}
	}
	for _, c := range wrong() {
		for at := range 3 {
			all := slices.Clone(right)
			all[at] = c.v
			hold(all, c.err)
		}
		for _, other := range wrong() {
			hold(rows(c.v, right[1], other.v), c.err)
			hold(rows(right[0], c.v, other.v), c.err)
			hold(rows(c.v, other.v, right[2]), c.err)
			hold(rows(c.v, other.v, nil), c.err)
		}
	}
	if m.Merge(right) != api.OK || !m.Steady(dot(0, 9)) {
		t.Errorf("right rows behind wrong ones: %v", m.Rows())
	}
}

// 8.3: what is stable, written down, the chapter's among them.
func TestStableTable(t *testing.T) {
	for _, c := range []struct {
		all  [][]api.Dot
		want []api.Dot
	}{
		{rows(list(0, 3), list(0, 2, 1, 1)), list(0, 2)},
		{rows(nil), nil}, {rows(list(0, 1)), list(0, 1)}, {rows(list(0, top)), list(0, top)},
		{rows(nil, nil), nil}, {rows(list(0, 3), nil), nil}, {rows(nil, list(0, 3)), nil}, {rows(list(0, 3), list(1, 3)), nil}, {rows(list(0, 3), list(0, 3)), list(0, 3)}, {rows(list(1, 1), list(1, top)), list(1, 1)}, {rows(list(1, top), list(1, top)), list(1, top)}, {rows(list(1, top-1), list(1, top)), list(1, top-1)},
		// One has nothing, wherever it stands; and the least stands first, in the midst, last.
		{rows(nil, list(0, 3), list(0, 3)), nil}, {rows(list(0, 3), nil, list(0, 3)), nil}, {rows(list(0, 3), list(0, 3), nil), nil}, {rows(list(1, 2), list(1, 3), list(1, 4)), list(1, 2)}, {rows(list(1, 4), list(1, 2), list(1, 3)), list(1, 2)}, {rows(list(1, 3), list(1, 4), list(1, 2)), list(1, 2)},
		// Peers that some have, that all have, and unlike counts.
		{rows(list(0, 5, 1, 2, 2, 7), list(0, 4, 2, 8), list(0, 6, 1, 9, 2, 9)), list(0, 4, 2, 7)}, {rows(list(0, 5, 1, 2), list(1, 3, 2, 8), list(0, 6, 2, 9)), nil}, {rows(allPeers(3, 5), list(0, 1, 2, 9), list(1, 7, 2, 3)), list(2, 3)}, {rows(allPeers(3, 5), allPeers(3, 4), allPeers(3, 6)), allPeers(3, 4)},
		{slices.Repeat(rows(allPeers(64, top)), 64), allPeers(64, top)}, {append(slices.Repeat(rows(allPeers(64, top)), 63), nil), nil}, {append(slices.Repeat(rows(allPeers(64, top)), 63), list(lastPeer, 1)), list(lastPeer, 1)}, {append(rows(list(0, 2)), slices.Repeat(rows(allPeers(64, 7)), 63)...), list(0, 2)},
	} {
		if got := of(t, c.all...).Stable(); !slices.Equal(got, c.want) {
			t.Errorf("of %v is stable %v, not %v", c.all, got, c.want)
		}
	}
}

// 8.3: which dots are steady, written down.
func TestSteadyTable(t *testing.T) {
	m := of(t, list(0, 3, 1, top, 2, 9), list(0, 5, 1, top), list(0, 4, 1, top, 2, 1))
	for _, c := range []struct {
		d    api.Dot
		want bool
	}{
		{dot(0, 1), true}, {dot(0, 2), true}, {dot(0, 3), true}, {dot(0, 4), false}, {dot(0, 5), false}, {dot(0, top), false}, {dot(1, 1), true}, {dot(1, top-1), true}, {dot(1, top), true}, {dot(2, 1), false}, {dot(2, 9), false},
		// Dots that may not be.
		{dot(0, 0), false}, {dot(0, -1), false}, {dot(0, math.MinInt), false}, {dot(0, math.MaxInt), false}, {dot(1, top+1), false}, {dot(2, 0), false}, {dot(-1, 1), false}, {dot(3, 1), false}, {dot(lastPeer, 1), false}, {dot(64, 1), false}, {dot(math.MinInt, 1), false}, {dot(math.MaxInt, 1), false}, {dot(-1, 0), false}, {dot(3, 0), false}, {dot(math.MinInt, math.MinInt), false},
	} {
		if got := m.Steady(c.d); got != c.want {
			t.Errorf("%v is steady: %v", c.d, got)
		}
	}
	if one := of(t, list(0, 2)); !one.Steady(dot(0, 2)) || one.Steady(dot(0, 3)) || one.Steady(dot(1, 1)) || New(1).Steady(dot(0, 1)) || New(1).Steady(api.Dot{}) || New(64).Steady(dot(lastPeer, 0)) {
		t.Error("of one peer, or of nothing")
	}
}

// 8.4: what a nil Matrix answers, whatever it is told.
func TestNil(t *testing.T) {
	var m *Matrix
	if m.Peers() != 0 || len(m.Rows()) != 0 || len(m.Stable()) != 0 {
		t.Errorf("%d, %v, %v", m.Peers(), m.Rows(), m.Stable())
	}
	for _, peer := range append(noPeers(), 0, 1, 2) {
		if len(m.Row(peer)) != 0 || m.Steady(dot(peer, 1)) || m.Steady(dot(0, peer)) {
			t.Errorf("%d: %v", peer, m.Row(peer))
		}
		for _, v := range rows(nil, []api.Dot{}, list(0, 1), list(0, 0), list(64, 1), list(1, 1, 0, 1)) {
			if err := m.Learn(peer, v); err != api.ErrState {
				t.Errorf("Learn of %d and %v is %v", peer, v, err)
			}
		}
	}
	for _, all := range [][][]api.Dot{nil, {}, rows(nil), rows(list(0, 1)), rows(list(0, 0)), before(), make([][]api.Dot, 64), make([][]api.Dot, 65)} {
		if err := m.Merge(all); err != api.ErrState {
			t.Errorf("Merge of %v is %v", all, err)
		}
	}
	if none := New(0); none.Learn(0, nil) != api.ErrState || none.Merge(nil) != api.ErrState || none.Peers() != 0 {
		t.Error("of none")
	}
}

// hold holds a matrix against the model.
func hold(t *testing.T, m *Matrix, want *model) {
	t.Helper()
	all := want.rows()
	if m.Peers() != want.peers || !same(m.Rows(), all) {
		t.Fatalf("%v, not %v", m.Rows(), all)
	}
	for peer, row := range all {
		if !slices.Equal(m.Row(peer), row) {
			t.Fatalf("row %d is %v, not %v", peer, m.Row(peer), row)
		}
	}
	stable := want.stable()
	if !slices.Equal(m.Stable(), vector(stable)) {
		t.Fatalf("of %v is stable %v, not %v", all, m.Stable(), vector(stable))
	}
	for peer := -1; peer <= want.peers; peer++ {
		for _, count := range []int{-1, 0, 1, stable[max(peer, 0)%64] - 1, stable[max(peer, 0)%64], stable[max(peer, 0)%64] + 1, top, top + 1} {
			if d := dot(peer, count); m.Steady(d) != want.steady(d) {
				t.Fatalf("of %v is %v steady: %v", all, d, m.Steady(d))
			}
		}
	}
}

// within tells whether each count of one is at most that of another one.
func within(a, b [64]int) bool {
	for i := range a {
		if a[i] > b[i] {
			return false
		}
	}
	return true
}

// 8.1 to 8.5: drawn calls, one behind the other, against the chapter's words; what is stable stays so, and is in each row.
func TestDrawnAgainstWords(t *testing.T) {
	r := rand.New(rand.NewSource(8))
	tells := map[api.Errno]int{}
	for _, peers := range []int{1, 2, 3, 4, 5, 17, 63, 64} {
		for range max(4, 90/peers) {
			m, want := New(peers), &model{peers: peers}
			for range 25 {
				stable := want.stable()
				var got, due api.Errno
				if r.Intn(3) == 0 {
					var all [][]api.Dot
					for range peers + r.Intn(9)/7*(r.Intn(3)-1) {
						all = append(all, drawnVector(r, peers))
					}
					got, due = m.Merge(all), want.merge(all)
				} else {
					peer, v := r.Intn(peers+2)-1, drawnVector(r, peers)
					got, due = m.Learn(peer, v), want.learn(peer, v)
				}
				if got != due {
					t.Fatalf("%v, not %v", got, due)
				}
				tells[got]++
				hold(t, m, want)
				if now := want.stable(); !within(stable, now) {
					t.Fatalf("%v is stable no more, but %v", stable, now)
				}
			}
		}
	}
	for _, err := range []api.Errno{api.OK, api.ErrPeer, api.ErrCount, api.ErrOrder, api.ErrSize} {
		if tells[err] < 50 {
			t.Errorf("%v is told %d times alone", err, tells[err])
		}
	}
}

// 8.5: whatever is learnt, dots that were steady are so, and each row has what is stable.
func TestStableStays(t *testing.T) {
	r := rand.New(rand.NewSource(9))
	grew := 0
	for range 60 {
		m := New(1 + r.Intn(4))
		var steady []api.Dot
		for range 30 {
			if v := drawnVector(r, m.Peers()); r.Intn(2) == 0 {
				m.Learn(r.Intn(m.Peers()+1), v)
			} else {
				m.Merge(slices.Repeat(rows(v), m.Peers()))
			}
			for _, d := range steady {
				if !m.Steady(d) {
					t.Fatalf("%v is steady no more: %v", d, m.Rows())
				}
			}
			for _, d := range m.Stable() {
				for peer := range m.Peers() {
					if !slices.ContainsFunc(m.Row(peer), func(has api.Dot) bool { return has.Peer == d.Peer && has.Count >= d.Count }) {
						t.Fatalf("%v is stable, but row %d is %v", d, peer, m.Row(peer))
					}
				}
				if !slices.Contains(steady, d) {
					steady = append(steady, d)
					grew++
				}
			}
		}
	}
	if grew < 200 {
		t.Errorf("%d dots alone became steady", grew)
	}
}

// lesson is a vector that is learnt of a peer.
type lesson struct {
	peer int
	v    []api.Dot
}

// orders goes through all orders of lessons.
func orders(lessons []lesson, at int, do func([]lesson)) {
	if at == len(lessons) {
		do(lessons)
	}
	for i := at; i < len(lessons); i++ {
		lessons[at], lessons[i] = lessons[i], lessons[at]
		orders(lessons, at+1, do)
		lessons[at], lessons[i] = lessons[i], lessons[at]
	}
}

// 8.5: in whatever order rows are learnt, some of them twice, and by Merge as by Learn, the matrix is the same.
func TestAllOrders(t *testing.T) {
	lessons := []lesson{{0, list(0, 3)}, {0, list(0, 2, 1, 4)}, {0, list(0, 3)}, {1, list(0, 2, 1, 1)}, {1, list(1, 9, 2, 1)}, {2, list(0, 1, 1, 2, 2, 3)}}
	want := rows(list(0, 3, 1, 4), list(0, 2, 1, 9, 2, 1), list(0, 1, 1, 2, 2, 3))
	orders(lessons, 0, func(lessons []lesson) {
		m, merged, bit := New(3), New(3), New(3)
		for i, l := range lessons {
			all := make([][]api.Dot, 3)
			all[l.peer] = l.v
			errs := []api.Errno{m.Learn(l.peer, l.v), merged.Merge(all)}
			if i%2 == 0 {
				errs = append(errs, bit.Learn(l.peer, l.v))
			} else {
				errs = append(errs, bit.Merge(m.Rows()))
			}
			if slices.ContainsFunc(errs, func(err api.Errno) bool { return err != api.OK }) {
				t.Fatalf("%v: %v", l, errs)
			}
		}
		bit.Merge(merged.Rows())
		for _, got := range []*Matrix{m, merged, bit} {
			if !same(got.Rows(), want) || !slices.Equal(got.Stable(), list(0, 1, 1, 2)) {
				t.Fatalf("%v come to %v", lessons, got.Rows())
			}
		}
	})
}

// 8.5: two that merge each other's rows come to the same, in either order.
func TestMergedBothWays(t *testing.T) {
	r := rand.New(rand.NewSource(10))
	for range 300 {
		peers := 1 + r.Intn(6)
		a, b := New(peers), New(peers)
		for range 6 {
			a.Learn(r.Intn(peers), drawnVector(r, peers))
			b.Learn(r.Intn(peers), drawnVector(r, peers))
		}
		ofA, ofB := a.Rows(), b.Rows()
		if a.Merge(ofB) != api.OK || b.Merge(ofA) != api.OK || !same(a.Rows(), b.Rows()) {
			t.Fatalf("%v and %v come to %v and %v", ofA, ofB, a.Rows(), b.Rows())
		}
		if was := a.Rows(); a.Merge(was) != api.OK || a.Merge(ofA) != api.OK || !same(a.Rows(), was) {
			t.Fatalf("%v with itself is %v", was, a.Rows())
		}
	}
}

// inRoom is a list in greater memory, and that memory, with dots around it that nobody may touch.
func inRoom(v []api.Dot) (inner, room []api.Dot) {
	room = slices.Concat(list(7, 77), v, list(8, 88, 9, 99))
	return room[1 : 1+len(v)], room
}

// vectorsAndWrong are lists that a matrix of three peers can learn, and others.
func vectorsAndWrong() [][]api.Dot {
	all := rows(nil, list(0, 1), list(1, 9), list(0, 5, 1, 5, 2, 5), list(2, top), allPeers(3, 2))
	for _, c := range wrong() {
		all = append(all, c.v)
	}
	return all
}

// R4: what is handed in is not changed, nor what lies around it, and not kept: what is done to it later changes no row.
func TestHandedIn(t *testing.T) {
	vectors := vectorsAndWrong()
	for i, v := range vectors {
		inner, room := inRoom(v)
		other, otherRoom := inRoom(vectors[(i*7+3)%len(vectors)])
		third, thirdRoom := inRoom(list(1, 6))
		wide := rows(list(6, 66), inner, other, third, list(5, 55))
		rooms := [][]api.Dot{room, otherRoom, thirdRoom}
		wantRooms, wantWide := cloned(rooms), cloned(wide)
		m, empty := of(t, before()...), New(3)
		for _, m := range []*Matrix{m, empty} {
			for peer := -1; peer <= 3; peer++ {
				m.Learn(peer, inner)
			}
			m.Merge(wide[1:4])
			m.Merge(wide[1:3])
		}
		if !same(rooms, wantRooms) || !same(wide, wantWide) {
			t.Fatalf("%v are now %v", wantRooms, rooms)
		}
		was, wasEmpty, stable := m.Rows(), empty.Rows(), m.Stable()
		for _, room := range rooms {
			for at := range room {
				room[at] = dot(0, 1000+at)
			}
		}
		clear(wide)
		if !same(m.Rows(), was) || !same(empty.Rows(), wasEmpty) || !slices.Equal(m.Stable(), stable) {
			t.Fatalf("of %v something was kept", v)
		}
	}
}

// spoil writes over a list, and over what lies behind its end.
func spoil(v []api.Dot) {
	v = v[:cap(v)]
	for i := range v {
		v[i] = dot(9, 999)
	}
}

// R4: what is handed out is nobody else's: what is done to it changes no row, and nothing else that is handed out.
func TestHandedOut(t *testing.T) {
	for _, all := range [][][]api.Dot{before(), rows(list(0, 3)), rows(list(0, 3), list(0, 2, 1, 1)), slices.Repeat(rows(allPeers(64, 9)), 64), rows(list(1, 1), list(1, 1), list(1, 1))} {
		m := of(t, all...)
		give := func() [][]api.Dot {
			lists := slices.Concat(m.Rows(), m.Rows(), rows(m.Stable(), m.Stable()))
			for peer := range m.Peers() {
				lists = append(lists, m.Row(peer), m.Row(peer))
			}
			return lists
		}
		given, want := give(), cloned(give())
		for i, v := range given {
			spoil(v)
			if !same(given[i+1:], want[i+1:]) {
				t.Fatalf("of %v: lists that are handed out share memory", all)
			}
			if !same(m.Rows(), all) {
				t.Fatalf("%v is now %v", all, m.Rows())
			}
		}
		clear(m.Rows())
		if !same(give(), want) {
			t.Fatalf("of %v something else behind a change of what was handed out", all)
		}
	}
}

// R4: what was handed out stays as it is, whatever is learnt behind it.
func TestHandedOutStays(t *testing.T) {
	m := of(t, before()...)
	was, row, stable := m.Rows(), m.Row(0), m.Stable()
	for count := range 40 {
		for peer := range 3 {
			m.Learn(peer, list(peer, 10+count))
		}
		m.Merge(slices.Repeat(rows(allPeers(3, 5+count)), 3))
	}
	if !same(was, before()) || !slices.Equal(row, before()[0]) || !slices.Equal(stable, list(1, 1)) {
		t.Errorf("now %v, %v, %v", was, row, stable)
	}
}

// R4: one matrix takes up another one's rows, or its own, and they stay apart.
func TestRowsPassedOn(t *testing.T) {
	m := of(t, before()...)
	other := New(3)
	if other.Merge(m.Rows()) != api.OK || m.Merge(m.Rows()) != api.OK || m.Learn(0, m.Row(1)) != api.OK || m.Learn(1, m.Stable()) != api.OK {
		t.Fatal("rows of a matrix are not learnt")
	}
	if want := rows(list(0, 3, 1, 2, 2, top), before()[1], before()[2]); !same(m.Rows(), want) || !same(other.Rows(), before()) {
		t.Errorf("%v and %v", m.Rows(), other.Rows())
	}
}

// R1: long lists and many rows come to an end.
func TestLongLists(t *testing.T) {
	m := of(t, before()...)
	long := make([]api.Dot, 1<<18)
	for i := range long {
		long[i] = dot(i, 2)
	}
	if m.Learn(0, long) != api.ErrPeer || m.Learn(0, slices.Repeat(list(0, 1), 1<<18)) != api.ErrOrder || m.Merge(rows(long, long, long)) != api.ErrPeer || m.Merge(make([][]api.Dot, 1<<18)) != api.ErrSize || !same(m.Rows(), before()) {
		t.Error("of long lists")
	}
}

// R5: many at once get the same answers, of one matrix that nobody changes and of their own.
func TestAtOnce(t *testing.T) {
	shared, lesson := of(t, before()...), list(1, 7)
	var all sync.WaitGroup
	for range 8 {
		all.Go(func() {
			for range 200 {
				own := New(3)
				if !same(shared.Rows(), before()) || !slices.Equal(shared.Stable(), list(1, 1)) || !shared.Steady(dot(1, 1)) || shared.Learn(3, lesson) != api.ErrPeer {
					t.Error("something else at once")
				}
				if own.Learn(1, lesson) != api.OK || own.Merge(shared.Rows()) != api.OK || !slices.Equal(own.Row(1), list(1, 7, 2, top)) {
					t.Errorf("something else of one's own: %v", own.Rows())
				}
			}
		})
	}
	all.Wait()
}

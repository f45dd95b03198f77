package sibling

import (
	"math/rand"
	"slices"
	"strconv"
	"testing"

	"hearsay/api"
)

// world is some peers, each with its leaf of one path, that grows by Write, Erase and Sync alone.
type world struct {
	t       *testing.T
	leaves  [][]api.Version
	known   []map[api.Dot]bool // of which versions each peer knows
	counts  []int
	written map[api.Dot]api.Version
	old     [][]api.Version // all leaves that there were
}

// newWorld is a world of so many peers, none of which has anything.
func newWorld(t *testing.T, peers int) *world {
	w := &world{t: t, leaves: make([][]api.Version, peers), counts: make([]int, peers), written: map[api.Dot]api.Version{}}
	for range peers {
		w.known = append(w.known, map[api.Dot]bool{})
	}
	return w
}

// number is a peer's number: those of a world lie apart, up to the last one.
func (w *world) number(peer int) int {
	return peer * lastPeer / max(1, len(w.leaves)-1)
}

// change lets a peer write, or erase, if there is something.
func (w *world) change(peer int, erase bool) {
	w.t.Helper()
	l, d := w.leaves[peer], dot(w.number(peer), w.counts[peer]+1)
	var next []api.Version
	var err api.Errno
	if erase {
		if next, err = Erase(l, d); err == api.ErrNone && len(liveWords(l)) == 0 {
			return
		}
	} else {
		next, err = Write(l, d, strconv.Itoa(len(w.written)))
	}
	if err != api.OK || len(next) != 1 || next[0].Dot != d || next[0].Dead != erase || !slices.Equal(next[0].Past, coverWords(l)) {
		w.t.Fatalf("%v, changed by %v, is %v, %v", l, d, next, err)
	}
	w.counts[peer]++
	w.written[d], w.known[peer][d] = next[0], true
	w.set(peer, next)
}

// tell lets a peer have what another leaf has, of these versions and those that they cover.
func (w *world) tell(peer int, l []api.Version, known map[api.Dot]bool) {
	w.t.Helper()
	for d := range known {
		w.known[peer][d] = true
	}
	w.set(peer, Sync(w.leaves[peer], l))
}

// set lays a peer's leaf down, and looks that it has what the peer knows of, and nothing else.
func (w *world) set(peer int, l []api.Version) {
	w.t.Helper()
	if e := leafWords(l); e != api.OK {
		w.t.Fatalf("peer %d has %v, which is no leaf: %v", peer, l, e)
	}
	w.hold(l, w.known[peer])
	w.leaves[peer] = l
	w.old = append(w.old, l)
}

// hold looks that each version that is known is there as it was written, or covered by one that is, and that no other one is.
func (w *world) hold(l []api.Version, known map[api.Dot]bool) {
	w.t.Helper()
	for d := range known {
		there := slices.ContainsFunc(l, func(v api.Version) bool { return sameVersion(v, w.written[d]) })
		covered := slices.ContainsFunc(l, func(v api.Version) bool { return hasWords(v.Past, d) })
		if there == covered {
			w.t.Fatalf("%v is there: %v, and covered: %v, in %v", w.written[d], there, covered, l)
		}
	}
	for _, v := range l {
		if !known[v.Dot] {
			w.t.Fatalf("%v has %v, that nobody told", l, v)
		}
	}
}

// all are all versions that were written.
func (w *world) all() map[api.Dot]bool {
	known := map[api.Dot]bool{}
	for d := range w.written {
		known[d] = true
	}
	return known
}

// syncAll is what leaves come to, synced one behind the other.
func syncAll(leaves [][]api.Version) []api.Version {
	var l []api.Version
	for _, other := range leaves {
		l = Sync(l, other)
	}
	return l
}

// syncHalves is what leaves come to, synced half by half.
func syncHalves(leaves [][]api.Version) []api.Version {
	if len(leaves) < 2 {
		return syncAll(leaves)
	}
	half := len(leaves) / 2
	return Sync(syncHalves(leaves[:half]), syncHalves(leaves[half:]))
}

// orders goes through all orders of leaves.
func orders(leaves [][]api.Version, at int, do func([][]api.Version)) {
	if at == len(leaves) {
		do(leaves)
	}
	for i := at; i < len(leaves); i++ {
		leaves[at], leaves[i] = leaves[i], leaves[at]
		orders(leaves, at+1, do)
		leaves[at], leaves[i] = leaves[i], leaves[at]
	}
}

// end looks that all leaves come to the same, in whatever order and however often, and that nothing is lost in it.
func (w *world) end(draw *rand.Rand) {
	w.t.Helper()
	want := syncAll(w.leaves)
	w.hold(want, w.all())
	check := func(leaves [][]api.Version) {
		if got := syncAll(leaves); !same(got, want) {
			w.t.Fatalf("%v come to %v, not %v", leaves, got, want)
		}
		if got := syncHalves(leaves); !same(got, want) {
			w.t.Fatalf("%v, half by half, come to %v, not %v", leaves, got, want)
		}
	}
	orders(slices.Clone(w.leaves), 0, check)
	if draw == nil {
		return
	}
	for range 5 {
		// Old leaves bring nothing back, wherever they come.
		often := slices.Concat(w.leaves, w.old, w.leaves)
		draw.Shuffle(len(often), func(i, j int) { often[i], often[j] = often[j], often[i] })
		check(often)
	}
}

// holdLaws looks that Sync of each two and three of the leaves that there were does not hang on the order, nor on how often.
func (w *world) holdLaws(draw *rand.Rand) {
	w.t.Helper()
	for range 60 {
		a, b, c := w.old[draw.Intn(len(w.old))], w.old[draw.Intn(len(w.old))], w.old[draw.Intn(len(w.old))]
		ab := Sync(a, b)
		if !same(ab, Sync(b, a)) || !same(Sync(a, a), a) || !same(Sync(ab, b), ab) || !same(Sync(ab, a), ab) {
			w.t.Fatalf("%v and %v come to %v and %v", a, b, ab, Sync(b, a))
		}
		if got, want := Sync(ab, c), Sync(a, Sync(b, c)); !same(got, want) {
			w.t.Fatalf("%v, %v and %v come to %v and %v", a, b, c, got, want)
		}
	}
}

// 7.5: worlds that are drawn come to one leaf, with nothing lost.
func TestDrawnWorlds(t *testing.T) {
	draw := rand.New(rand.NewSource(7))
	sides := 0
	for range 200 {
		w := newWorld(t, 1+draw.Intn(5))
		for range 5 + draw.Intn(35) {
			peer, other := draw.Intn(len(w.leaves)), draw.Intn(len(w.leaves))
			switch draw.Intn(5) {
			case 0, 1:
				w.change(peer, false)
			case 2:
				w.change(peer, true)
			default:
				w.tell(peer, w.leaves[other], w.known[other])
			}
		}
		w.end(draw)
		if len(w.old) > 0 {
			w.holdLaws(draw)
		}
		if len(syncAll(w.leaves)) > 1 {
			sides++
		}
	}
	if sides < 50 {
		t.Errorf("versions stand side by side in %d worlds alone", sides)
	}
}

// 7.5: all worlds of two peers and six steps, and of three peers and four steps.
func TestAllSmallWorlds(t *testing.T) {
	for _, c := range []struct{ peers, steps int }{{2, 6}, {3, 4}} {
		ways := c.peers * (c.peers + 1) // of each peer: write, erase, ask each other one
		scripts := 1
		for range c.steps {
			scripts *= ways
		}
		for script := range scripts {
			w := newWorld(t, c.peers)
			for rest, step := script, 0; step < c.steps; rest, step = rest/ways, step+1 {
				peer, way := rest%ways%c.peers, rest%ways/c.peers
				if way < 2 {
					w.change(peer, way == 1)
				} else {
					other := (peer + way - 1) % c.peers
					w.tell(peer, w.leaves[other], w.known[other])
				}
			}
			w.end(nil)
		}
	}
}

// 7.5: all peers write at once, and all stand side by side; one that has all covers all.
func TestAllPeersAtOnce(t *testing.T) {
	w := newWorld(t, 64)
	for peer := range 64 {
		w.change(peer, peer%5 == 1)
		w.change(peer, false)
		w.change(peer, peer%3 == 0)
	}
	both := syncAll(w.leaves)
	falling := slices.Clone(w.leaves)
	slices.Reverse(falling)
	if w.hold(both, w.all()); len(both) != 64 || !same(syncAll(falling), both) || !same(syncHalves(w.leaves), both) {
		t.Fatalf("%v stand side by side", both)
	}
	w.tell(9, both, w.all())
	w.change(9, false)
	for peer := range 64 {
		w.tell(peer, w.leaves[9], w.all())
		if !same(w.leaves[peer], w.leaves[9]) || len(w.leaves[peer]) != 1 {
			t.Fatalf("peer %d has %v", peer, w.leaves[peer])
		}
	}
}

// 7.5: the chapter's example, and what the ten examples of the whole say of one path.
func TestExamples(t *testing.T) {
	x, _ := Write(nil, dot(0, 1), "x")
	o, _ := Write(x, dot(1, 1), "o")
	if !same(o, leaf(live(1, 1, "o", 0, 1))) || !same(Sync(o, x), o) || !same(Sync(x, o), o) {
		t.Errorf("%v with %v is %v", o, x, Sync(o, x))
	}
	y, _ := Write(x, dot(0, 2), "y")
	both := Sync(o, y)
	if v, is := Winner(both); !same(both, leaf(live(0, 2, "y", 0, 1), live(1, 1, "o", 0, 1))) || !is || v.Dot != dot(0, 2) || v.Data != "y" {
		t.Errorf("%v with %v is %v, the winner %v, %v", o, y, both, v, is)
	}
	over, _ := Write(both, dot(2, 1), "z")
	if !same(over, leaf(live(2, 1, "z", 0, 2, 1, 1))) || !same(Sync(both, over), over) {
		t.Errorf("%v, written over, is %v", both, over)
	}
	gone, _ := Erase(over, dot(2, 2))
	if _, is := Winner(gone); !same(gone, leaf(dead(2, 2, 0, 2, 1, 1, 2, 1))) || is || !same(Sync(over, gone), gone) || !same(Sync(gone, x), gone) {
		t.Errorf("%v, deleted, is %v", over, gone)
	}
	if _, err := Erase(gone, dot(2, 3)); err != api.ErrNone {
		t.Errorf("deleted once more: %v", err)
	}
}

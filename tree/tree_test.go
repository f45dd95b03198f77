package tree

import (
	"maps"
	"math/rand"
	"slices"
	"strconv"
	"strings"
	"sync"
	"testing"

	"hearsay/api"
	"hearsay/sha"
)

// hold holds all that a tree tells against what it has by the chapter's words.
func hold(t *testing.T, tree *Tree, h held) {
	t.Helper()
	want := entriesWords(h)
	if got := tree.Entries(); !sameEntriesWords(got, want) {
		t.Fatalf("the entries are %s, not %s", tellEntries(got), tellEntries(want))
	}
	if tree.Len() != len(h) {
		t.Fatalf("%s are %d paths", tellEntries(want), tree.Len())
	}
	if tree.Root() != rootWords(h) {
		t.Fatalf("of %s the root's digest is %s", tellEntries(want), sha.Hex(tree.Root()))
	}
	if tree.Seen() != rootWords(aliveWords(h)) {
		t.Fatalf("%s is seen as %s", tellEntries(want), sha.Hex(tree.Seen()))
	}
	dirs := dirsWords(h)
	for _, s := range asked(dirs) {
		if got := tree.Get(s); !sameLeafWords(got, h[s]) {
			t.Fatalf("of %s at %s there is %s", tellEntries(want), short(s), tellLeaf(got))
		}
		holdNode(t, tree, h, s, slices.Contains(dirs, s))
	}
}

// holdNode holds a node against the words; is: whether there is one.
func holdNode(t *testing.T, tree *Tree, h held, dir string, is bool) {
	t.Helper()
	var want api.Node
	if is {
		want = nodeIn(h, dir)
	}
	if got, has := tree.Node(dir); has != is || !sameNodeWords(got, want) {
		t.Fatalf("of %s the node of %s is %s, %v, not %s, %v", tellEntries(entriesWords(h)), short(dir), tellNode(got), has, tellNode(want), is)
	}
}

// asked are directories, and texts that are near them.
func asked(dirs []string) []string {
	texts := map[string]bool{}
	for _, dir := range dirs {
		for _, s := range []string{dir, dir + "/", "/" + dir, dir + "a", dir + "-", dir + "/a", dir + "/-", dir + "//a", dir[:max(0, len(dir)-1)], dir[min(1, len(dir)):], strings.ToUpper(dir), dir + "\x00", dir + "/."} {
			texts[s] = true
		}
	}
	return slices.Sorted(maps.Keys(texts))
}

// made is the tree of some entries, which may be.
func made(t *testing.T, l []api.Entry) *Tree {
	t.Helper()
	tree, err := Of(l)
	if err != api.OK {
		t.Fatalf("%s are no tree: %v", tellEntries(l), err)
	}
	return tree
}

// with is a tree with a leaf at a path, which may be.
func with(t *testing.T, tree *Tree, path string, l []api.Version) *Tree {
	t.Helper()
	next, err := tree.Set(path, l)
	if err != api.OK || next == nil {
		t.Fatalf("%s at %s: %v", tellLeaf(l), short(path), err)
	}
	return next
}

// holdWrong holds that Set answers an error, and no tree.
func holdWrong(t *testing.T, tree *Tree, path string, l []api.Version, want api.Errno) {
	t.Helper()
	if next, err := tree.Set(path, l); next != nil || err != want {
		t.Errorf("%s at %s: %v, %v, not %v", tellLeaf(l), short(path), next != nil, err, want)
	}
}

// heldOf is what a tree of some entries has by the words.
func heldOf(l []api.Entry) held {
	h, _ := ofWords(l)
	return h
}

// nothings are trees that have nothing, made in each way.
func nothings(t *testing.T) []*Tree {
	a := with(t, nil, "a/b", versions(live(0, 1, "x")))
	b := with(t, with(t, a, "a", versions(dead(1, 1))), "c", versions(live(2, 1, "")))
	for _, path := range []string{"a", "c", "a/b"} {
		b = with(t, b, path, nil)
	}
	return []*Tree{nil, {}, made(t, nil), made(t, []api.Entry{}), made(t, []api.Entry{entry("a"), {Path: "b/c", Versions: []api.Version{}}}), with(t, a, "a/b", nil), with(t, nil, "a", nil), with(t, &Tree{}, "a/b", []api.Version{}), b}
}

// 15.1, 15.2, 15.3: a nil Tree and all that have nothing are the same to all; the chapter's example.
func TestNothing(t *testing.T) {
	const empty = "96a296d224f285c67bee93c30f8a309157f0daa35dc5b87e410b78630a09cfc7"
	x := versions(live(0, 1, "x"))
	for i, tree := range nothings(t) {
		hold(t, tree, nil)
		if tree.Len() != 0 || len(tree.Get("a")) != 0 || len(tree.Get("")) != 0 || len(tree.Entries()) != 0 {
			t.Errorf("%d: it has something", i)
		}
		if n, is := tree.Node(""); !is || len(n.Versions) != 0 || len(n.Kids) != 0 {
			t.Errorf("%d: the root is %s, %v", i, tellNode(n), is)
		}
		if sha.Hex(tree.Root()) != empty || sha.Hex(tree.Seen()) != empty || tree.Root() != sha.Of("\x00\x00") {
			t.Errorf("%d: the digests are %s and %s", i, sha.Hex(tree.Root()), sha.Hex(tree.Seen()))
		}
		for _, path := range goodPaths() {
			holdNode(t, tree, nil, path, false)
			hold(t, with(t, tree, path, nil), nil)
			hold(t, with(t, tree, path, x), held{path: x})
		}
		for _, c := range brokenPaths() {
			holdNode(t, tree, nil, c.path, c.path == "")
			holdWrong(t, tree, c.path, x, c.err)
			holdWrong(t, tree, c.path, nil, c.err)
		}
		for j, other := range nothings(t) {
			if !Same(tree, other) || !Same(other, tree) {
				t.Errorf("%d and %d are not the same", i, j)
			}
		}
		one := with(t, nil, "a", x)
		if Same(tree, one) || Same(one, tree) {
			t.Errorf("%d is the same as one that has something", i)
		}
	}
}

// told are entries, and the digests of the root and of what is seen, worked out by hand of the chapter's words.
type told struct {
	entries    []api.Entry
	root, seen string
}

// toldTrees are trees with their digests, written down. With x the bytes "\x01\x00\x01\x00\x00\x01x", a leaf's, and b the digest of x "\x00", the root of "a/b" is the digest of "\x00\x01\x01a" and that of "\x00\x01\x01b" and b; the others are likewise.
func toldTrees() []told {
	const (
		nothing = "96a296d224f285c67bee93c30f8a309157f0daa35dc5b87e410b78630a09cfc7"
		below   = "71ac092db186f56c657544d1e07cb155206cc7dc2f56f16166a96e1105ed647e"
		alone   = "8736fe386328e81839334e295120f2ac21081fe46c0a7b72e6ce589fcc9e73e5"
		both    = "340de9b012ec1281a504238b016c33b2a71270652bcb84620c483d91ac3aa610"
		isDead  = "ef9b9d641f10aa243c07c7cc39c5a1ac54d6c7bae24f414b81df2c3fde3e8291"
		three   = "cff614a2771e5221066923c34c0a7c1d6e93d59840ae985db27b343ffe7be5ff"
		two     = "aec1055ee0dc9b8b0602dc17027cc72ea9cb890a9e95b9b367cfe92328252922"
		oneSeen = "f52f62470889517935023c4cfda7f3ca53ff0637daa259b4b3496a3d955f7b76"
		four    = "8522268b0338ebca53ab8fb7b8b74e41ba8bd9f93d263e02e9cf464ac6447e4c"
	)
	x, gone := live(0, 1, "x"), dead(1, 2)
	y, erased := live(0, 2, "y", 0, 1), dead(1, 1, 0, 1)
	return []told{
		{nil, nothing, nothing},
		{[]api.Entry{entry("a/b", x)}, below, below},
		{[]api.Entry{entry("a", x)}, alone, alone},
		{[]api.Entry{entry("a/b/c/d", x)}, four, four},
		{[]api.Entry{entry("a-b", x), entry("a/b", x), entry("a", x)}, three, three},
		// What is Dead plays no part in what is seen, nor does a directory in which nothing else is.
		{[]api.Entry{entry("a", gone), entry("a/b", x)}, both, below},
		{[]api.Entry{entry("a", gone)}, isDead, nothing},
		{[]api.Entry{entry("b", y, erased)}, two, oneSeen},
	}
}

// 15.2: the digests of small trees, worked out by hand.
func TestToldDigests(t *testing.T) {
	for _, c := range toldTrees() {
		tree := made(t, c.entries)
		if root, seen := sha.Hex(tree.Root()), sha.Hex(tree.Seen()); root != c.root || seen != c.seen {
			t.Errorf("%s has the root %s and is seen as %s", tellEntries(c.entries), root, seen)
		}
		hold(t, tree, heldOf(c.entries))
	}
}

// 15.2: the chapter's example: of "a/b" there are the nodes of "", "a" and "a/b"; and none else.
func TestExample(t *testing.T) {
	x := versions(live(0, 1, "x"))
	tree := with(t, nil, "a/b", x)
	leaf := sha.Of("\x01\x00\x01\x00\x00\x01x\x00")
	dir := sha.Of("\x00\x01\x01b" + string(leaf[:]))
	for path, want := range map[string]api.Node{"": {Kids: []api.Kid{{Name: "a", Sum: dir}}}, "a": {Kids: []api.Kid{{Name: "b", Sum: leaf}}}, "a/b": {Versions: x}} {
		if n, is := tree.Node(path); !is || !sameNodeWords(n, want) {
			t.Errorf("the node of %q is %s, %v", path, tellNode(n), is)
		}
	}
	for _, path := range []string{"b", "a/b/c", "a/a", "a/", "/a", "/", "a/b/", "a//b", ".", "ab", "A"} {
		if n, is := tree.Node(path); is || !sameNodeWords(n, api.Node{}) {
			t.Errorf("the node of %q is %s, %v", path, tellNode(n), is)
		}
	}
}

// 15.1, 15.2: each path by itself, with each leaf.
func TestOnePath(t *testing.T) {
	for i, path := range goodPaths() {
		for j, l := range goodLeaves() {
			if i > 0 && j >= 12 {
				break // the largest leaves at one path alone
			}
			tree := with(t, nil, path, l)
			hold(t, tree, held{path: l})
			hold(t, with(t, tree, path, nil), nil)
			hold(t, with(t, tree, path, goodLeaves()[(j+1)%12]), held{path: goodLeaves()[(j+1)%12]})
		}
	}
}

// 15.1: Get of each path that a tree has, of such as it has not, and of no paths.
func TestGet(t *testing.T) {
	l := goodLeaves()
	tree, h := (*Tree)(nil), held{}
	for i, path := range goodPaths() {
		if i%2 == 0 {
			tree, h[path] = with(t, tree, path, l[i%12]), l[i%12]
		}
	}
	for i, path := range goodPaths() {
		want := []api.Version(nil)
		if i%2 == 0 {
			want = l[i%12]
		}
		if got := tree.Get(path); !sameLeafWords(got, want) {
			t.Errorf("at %s there is %s", path, tellLeaf(got))
		}
	}
	for _, c := range brokenPaths() {
		if got := tree.Get(c.path); len(got) != 0 {
			t.Errorf("at %s there is %s", short(c.path), tellLeaf(got))
		}
	}
	hold(t, tree, h)
}

// 15.1: Entries rise by 4's Compare, however they came: a directory ahead of all below it, and these ahead of names that begin as it.
func TestEntries(t *testing.T) {
	tree := made(t, entries("a-b", "a/b", "a"))
	var got []string
	for _, e := range tree.Entries() {
		got = append(got, e.Path)
	}
	if !slices.Equal(got, []string{"a", "a/b", "a-b"}) {
		t.Errorf("the paths are %q", got)
	}
	draw := rand.New(rand.NewSource(15))
	want := entries(goodPaths()...)
	for range 50 {
		mixed := slices.Clone(want)
		draw.Shuffle(len(mixed), func(i, j int) { mixed[i], mixed[j] = mixed[j], mixed[i] })
		if got := made(t, mixed).Entries(); !sameEntriesWords(got, want) {
			t.Fatalf("the entries are %s", tellEntries(got))
		}
	}
	hold(t, made(t, want), heldOf(want))
}

// 15.1: Set at a path that is new, and at one that is there, with an empty leaf at both; the tree that it was asked of is as it was.
func TestSet(t *testing.T) {
	l := goodLeaves()
	tree, h := (*Tree)(nil), held{}
	for i, path := range goodPaths() {
		for _, leaf := range [][]api.Version{nil, {}, l[i%12], l[(i+5)%12], nil, l[(i+3)%12]} {
			before := maps.Clone(h)
			next := with(t, tree, path, leaf)
			after, _ := setWords(h, path, leaf)
			if got := next.Entries(); !sameEntriesWords(got, entriesWords(after)) {
				t.Fatalf("with %s at %s the entries are %s", tellLeaf(leaf), path, tellEntries(got))
			}
			if got := tree.Entries(); !sameEntriesWords(got, entriesWords(before)) {
				t.Fatalf("the tree that was asked has %s", tellEntries(got))
			}
			if tree.Root() != rootWords(before) || tree.Len() != len(before) {
				t.Fatalf("the tree that was asked of %s is another one", path)
			}
			tree, h = next, after
		}
	}
	hold(t, tree, h)
}

// 15.1: what is wrong first: the path, then the leaf, then that there is no room; all sets of these; the tree stays as it is.
func TestSetWrong(t *testing.T) {
	full := entries(manyPaths(mostPaths, shared)...)
	x := versions(live(9, 9, "x"))
	few, many := made(t, full[:3]), made(t, full)
	check := func(path string, l []api.Version, inFew, inMany api.Errno) {
		t.Helper()
		holdWrong(t, few, path, l, inFew)
		holdWrong(t, many, path, l, inMany)
		holdWrong(t, nil, path, l, inFew)
	}
	for _, p := range brokenPaths() {
		check(p.path, x, p.err, p.err)
		check(p.path, nil, p.err, p.err)
		for _, l := range brokenLeaves() {
			check(p.path, l.versions, p.err, p.err)
		}
	}
	for _, l := range brokenLeaves() {
		for _, path := range []string{"new", full[0].Path, full[1].Path, "s0"} {
			check(path, l.versions, l.err, l.err)
		}
	}
	holdWrong(t, many, "new", x, api.ErrFull)
	if next, err := few.Set("new", x); next.Len() != 4 || err != api.OK {
		t.Errorf("a fourth path: %d, %v", next.Len(), err)
	}
	if !sameEntriesWords(few.Entries(), entriesWords(heldOf(full[:3]))) || !sameEntriesWords(many.Entries(), entriesWords(heldOf(full))) {
		t.Errorf("a tree was changed")
	}
}

// 15.1: at MaxEntries paths one more is ErrFull, wherever it stands; a path that is there, an empty leaf and one path for another one are none more.
func TestFull(t *testing.T) {
	x := versions(live(9, 9, "x"))
	for _, dir := range []func(int) string{flat, shared, deep} {
		all := manyPaths(mostPaths, dir)
		tree, h := made(t, entries(all[:mostPaths-1]...)), heldOf(entries(all[:mostPaths-1]...))
		hold(t, tree, h)
		last := all[mostPaths-1]
		tree, h[last] = with(t, tree, last, x), x
		hold(t, tree, h)
		for _, path := range []string{"-", "zz", "p1x", "s0", "a0/b0", "a0/b0/c0/p", longest("")} {
			holdWrong(t, tree, path, x, api.ErrFull)
			holdWrong(t, tree, path, versions(dead(0, 1)), api.ErrFull)
			for _, none := range [][]api.Version{nil, {}} {
				if same := with(t, tree, path, none); !Same(same, tree) || same.Len() != mostPaths {
					t.Errorf("without %s it is another one", path)
				}
			}
			for i := 0; i < mostPaths; i += 13 {
				less := with(t, tree, all[i], nil)
				again := with(t, less, path, x)
				want := maps.Clone(h)
				delete(want, all[i])
				want[path] = x
				if !sameEntriesWords(again.Entries(), entriesWords(want)) || again.Root() != rootWords(want) || less.Len() != mostPaths-1 {
					t.Errorf("%s for %s: %s", path, all[i], tellEntries(again.Entries()))
				}
				holdWrong(t, again, all[i], x, api.ErrFull)
			}
		}
		for _, path := range all {
			if next := with(t, tree, path, versions(live(3, 3, path))); next.Len() != mostPaths || next.Get(path)[0].Data != path {
				t.Errorf("at %s, that is there: %d, %s", path, next.Len(), tellLeaf(next.Get(path)))
			}
		}
		hold(t, tree, h)
	}
}

// 15.2: the node of a path that has a leaf alone, something below it alone, and both; of one that has neither, also where another one begins as it.
func TestNode(t *testing.T) {
	tree := made(t, entries("leaf", "dir/b", "dir/a", "dir/a-", "both", "both/x/y", "ab", "ab-/c", "top.a"))
	names := func(n api.Node) string {
		var all []string
		for _, kid := range n.Kids {
			all = append(all, kid.Name)
		}
		return strings.Join(all, " ")
	}
	for _, c := range []struct {
		dir, names string
		leaf       int
	}{{"", "ab ab- both dir leaf top.a", 0}, {"leaf", "", 1}, {"dir", "a a- b", 0}, {"dir/a", "", 1}, {"dir/a-", "", 1}, {"both", "x", 1}, {"both/x", "y", 0}, {"both/x/y", "", 1}, {"ab", "", 1}, {"ab-", "c", 0}, {"top.a", "", 1}} {
		n, is := tree.Node(c.dir)
		if !is || names(n) != c.names || len(n.Versions) != c.leaf {
			t.Errorf("the node of %q is %s, %v", c.dir, tellNode(n), is)
		}
		for _, kid := range n.Kids {
			path := strings.TrimPrefix(c.dir+"/"+kid.Name, "/")
			if below, is := tree.Node(path); !is || kid.Sum != sumWords(below) {
				t.Errorf("in %q %q has another digest than its node", c.dir, kid.Name)
			}
		}
	}
	for _, dir := range []string{"a", "b", "di", "dir/", "dir/c", "di/r", "leaf/x", "leaf.", "both/", "both/y", "both/x/y/z", "both/x/y/z/a", "top", "top.", "to", "ab-/", "ab-/c/d", "/", "//", ".", "..", "./dir", "/dir", "Dir", "DIR", "dir/A", "x", "y", strings.Repeat("a", 100)} {
		if n, is := tree.Node(dir); is || !sameNodeWords(n, api.Node{}) {
			t.Errorf("the node of %q is %s, %v", dir, tellNode(n), is)
		}
	}
}

// 15.1, 15.2: all texts of up to four bytes of a few kinds, of a tree of some of them.
func TestAllTexts(t *testing.T) {
	h := held{}
	tree := (*Tree)(nil)
	x := versions(live(0, 1, "x"))
	texts := textsOf(4, "ab-/.A")
	for i, s := range texts {
		if pathWords(s) == api.OK && i%11 == 0 && len(h) < 100 {
			h[s], tree = x, with(t, tree, s, x)
		}
	}
	if len(h) < 30 {
		t.Fatalf("%d paths", len(h))
	}
	hold(t, tree, h)
	dirs := map[string]bool{}
	for _, dir := range dirsWords(h) {
		dirs[dir] = true
	}
	y := versions(live(1, 1, "y"))
	for _, s := range texts {
		holdNode(t, tree, h, s, dirs[s])
		if got := tree.Get(s); !sameLeafWords(got, h[s]) {
			t.Fatalf("at %q there is %s", s, tellLeaf(got))
		}
		want, wrong := setWords(h, s, y)
		next, err := tree.Set(s, y)
		if err != wrong || (next == nil) != (err != api.OK) || !sameEntriesWords(next.Entries(), entriesWords(want)) {
			t.Fatalf("with %q: %s, %v", s, tellEntries(next.Entries()), err)
		}
	}
}

// textsOf are all texts of up to so many of some bytes.
func textsOf(most int, bytes string) []string {
	all := []string{""}
	ahead := all
	for range most {
		var next []string
		for _, s := range ahead {
			for _, b := range bytes {
				next = append(next, s+string(b))
			}
		}
		all, ahead = append(all, next...), next
	}
	return all
}

// 15.2: what is seen: without what is Dead, each set of versions; a leaf of which all are Dead, and a directory of such, is not there.
func TestSeen(t *testing.T) {
	paths := []string{"a", "a/b", "a/b/c", "a-", "d/e/f/g", "d/e/h"}
	for set := range 1 << (2 * len(paths)) {
		var all, alive []api.Entry
		for i, path := range paths {
			var l, seen []api.Version
			for peer := range 2 {
				if set>>(2*i+peer)&1 != 0 {
					l = append(l, dead(peer, 5, 9, 1+i))
					continue
				}
				v := live(peer, 5, path, 9, 1+i)
				l, seen = append(l, v), append(seen, v)
			}
			all = append(all, api.Entry{Path: path, Versions: l})
			if len(seen) > 0 {
				alive = append(alive, api.Entry{Path: path, Versions: seen})
			}
		}
		tree, want := made(t, all), made(t, alive)
		if tree.Seen() != want.Root() || tree.Seen() != want.Seen() || tree.Len() != len(paths) {
			t.Fatalf("%s is not seen as %s", tellEntries(all), tellEntries(alive))
		}
		if set%97 == 0 {
			hold(t, tree, heldOf(all))
		}
	}
}

// 15.3: Of entries in any order, of a path twice, of empty leaves.
func TestOf(t *testing.T) {
	x, y := live(0, 1, "x"), live(1, 1, "y")
	for _, c := range []struct {
		given []api.Entry
		want  held
	}{
		{nil, nil},
		{[]api.Entry{}, nil},
		{[]api.Entry{entry("a", x)}, held{"a": {x}}},
		{[]api.Entry{entry("b", x), entry("a", y)}, held{"a": {y}, "b": {x}}},
		{[]api.Entry{entry("a", x), entry("b", x), entry("a", y)}, held{"a": {y}, "b": {x}}},
		{[]api.Entry{entry("a", x, y), entry("a", y)}, held{"a": {y}}},
		{[]api.Entry{entry("a")}, nil},
		{[]api.Entry{entry("a", x), entry("a")}, nil},
		{[]api.Entry{entry("a", x), entry("a"), entry("a", y)}, held{"a": {y}}},
		{[]api.Entry{entry("a"), entry("a", x)}, held{"a": {x}}},
		{[]api.Entry{entry("a/b", x), entry("c"), entry("a", y), entry("d", y), entry("a/b"), entry("d")}, held{"a": {y}}},
	} {
		if want, err := ofWords(c.given); !sameWords(want, c.want) || err != api.OK {
			t.Fatalf("by the words %s are otherwise: %v", tellEntries(c.given), err)
		}
		hold(t, made(t, c.given), c.want)
	}
	for _, l := range goodLeaves() {
		hold(t, made(t, []api.Entry{entry("b/c", l...), entry("a", x)}), held{"b/c": l, "a": {x}})
	}
}

// 15.3: the first error of Of, and then no tree.
func TestOfWrong(t *testing.T) {
	x := versions(live(0, 1, "x"))
	check := func(l []api.Entry, want api.Errno) {
		t.Helper()
		if h, err := ofWords(l); h != nil || err != want {
			t.Fatalf("by the words %s: %v", tellEntries(l), err)
		}
		if tree, err := Of(l); tree != nil || err != want {
			t.Errorf("%s: %v, %v, not %v", tellEntries(l), tree != nil, err, want)
		}
	}
	good := entries("a", "b/c", "d")
	for _, p := range brokenPaths() {
		bad := api.Entry{Path: p.path, Versions: x}
		for at := range good {
			check(slices.Insert(slices.Clone(good), at, bad), p.err)
		}
		check(append(slices.Clone(good), bad), p.err)
		check([]api.Entry{{Path: p.path}}, p.err)
		check([]api.Entry{bad, {Path: "a", Versions: make([]api.Version, 65)}}, p.err)
		check([]api.Entry{good[0], {Path: "a", Versions: versions(dead(64, 1))}, bad}, api.ErrPeer)
	}
	for _, l := range brokenLeaves() {
		bad := api.Entry{Path: "b/c", Versions: l.versions}
		for at := range good {
			check(slices.Insert(slices.Clone(good), at, bad), l.err)
		}
		check([]api.Entry{bad, entry("b/c"), entry("/")}, l.err)
		check([]api.Entry{{Path: "a", Versions: l.versions}, {Path: "a", Versions: x}}, l.err)
		check([]api.Entry{{Path: "A", Versions: l.versions}}, api.ErrPath)
	}
}

// 15.3: Of MaxEntries paths, and one more; of more entries than that, where no time there are more paths.
func TestOfFull(t *testing.T) {
	for _, dir := range []func(int) string{flat, shared, deep} {
		all := entries(manyPaths(mostPaths+1, dir)...)
		draw := rand.New(rand.NewSource(151))
		for range 5 {
			hold(t, made(t, all[:mostPaths]), heldOf(all[:mostPaths]))
			for _, l := range [][]api.Entry{all, append(slices.Clone(all), entry("/")), append(slices.Clone(all), api.Entry{Path: all[0].Path})} {
				if tree, err := Of(l); tree != nil || err != api.ErrFull {
					t.Errorf("one more: %v, %v", tree != nil, err)
				}
			}
			if tree, err := Of(slices.Insert(slices.Clone(all), 100, entry("/"))); tree != nil || err != api.ErrPath {
				t.Errorf("no path ahead of one more: %v, %v", tree != nil, err)
			}
			doubled := slices.Concat(all[:mostPaths], all[:mostPaths], []api.Entry{{Path: all[7].Path}}, all[mostPaths:])
			want := heldOf(doubled)
			if tree := made(t, doubled); len(want) != mostPaths || !sameEntriesWords(tree.Entries(), entriesWords(want)) {
				t.Errorf("doubled: %s", tellEntries(tree.Entries()))
			}
			draw.Shuffle(len(all), func(i, j int) { all[i], all[j] = all[j], all[i] })
		}
	}
}

// alike are trees, no two of which are the same: they differ in a path, in a field of a version, in how many paths there are.
func alike() [][]api.Entry {
	v := live(5, 5, "data", 7, 7)
	all := [][]api.Entry{nil}
	for _, l := range [][]api.Version{
		versions(v), versions(live(6, 5, "data", 7, 7)), versions(live(5, 6, "data", 7, 7)), versions(live(5, 5, "datb", 7, 7)), versions(live(5, 5, "", 7, 7)), versions(dead(5, 5, 7, 7)), versions(live(5, 5, "data", 7, 8)), versions(live(5, 5, "data", 8, 7)), versions(live(5, 5, "data")), versions(live(5, 5, "data", 7, 7, 8, 1)),
		versions(v, live(6, 5, "data", 7, 7)), versions(v, dead(6, 5, 7, 7)), versions(live(4, 5, "data", 7, 7), v), versions(v, live(6, 5, "data", 7, 7), live(7, 9, "data", 7, 7)),
	} {
		for _, path := range []string{"a", "b", "a/b", "ab"} {
			all = append(all, []api.Entry{entry(path, l...)})
		}
		all = append(all, []api.Entry{entry("a", l...), entry("b", v)}, []api.Entry{entry("a", v), entry("b/c", l...)}, []api.Entry{entry("a", l...), entry("a/b", v)}, []api.Entry{entry("a", v), entry("b", v), entry("c", l...)})
	}
	return all
}

// 15.3, 15.4: Same, and the roots' digests: each tree with each.
func TestSame(t *testing.T) {
	all := alike()
	for i, l := range all {
		for j, m := range all {
			a, b := made(t, l), made(t, m)
			want := i == j
			if sameWords(heldOf(l), heldOf(m)) != want {
				t.Fatalf("by the words %s and %s are the same: %v", tellEntries(l), tellEntries(m), !want)
			}
			if Same(a, b) != want || (a.Root() == b.Root()) != want {
				t.Errorf("%s and %s are the same: %v, of the same root: %v", tellEntries(l), tellEntries(m), Same(a, b), a.Root() == b.Root())
			}
			alive, other := aliveWords(heldOf(l)), aliveWords(heldOf(m))
			if (a.Seen() == b.Seen()) != sameWords(alive, other) {
				t.Errorf("%s and %s are seen as the same: %v", tellEntries(l), tellEntries(m), a.Seen() == b.Seen())
			}
		}
	}
}

// 15.3: Same of long leaves, that differ in the last version, or in the last dot of its Past.
func TestSameLong(t *testing.T) {
	long := func(change func(l []api.Version)) *Tree {
		l := everyPeers(func(peer int) api.Version {
			return api.Version{Dot: dot(peer, 5), Past: everyPeer(4), Data: "x"}
		})
		change(l)
		return made(t, append(entries(manyPaths(mostPaths-1, shared)...), entry("zz", l...)))
	}
	none := func([]api.Version) {}
	if !Same(long(none), long(none)) || long(none).Root() != long(none).Root() {
		t.Errorf("it is not the same as itself")
	}
	for i, change := range []func([]api.Version){
		func(l []api.Version) { l[63].Data = "y" },
		func(l []api.Version) { l[63].Past[63].Count = 3 },
		func(l []api.Version) { l[63].Past = l[63].Past[:63] },
		func(l []api.Version) { l[63].Dot.Count = 6 },
		func(l []api.Version) { l[63].Data, l[63].Dead = "", true },
		func(l []api.Version) { l[0].Data = "" },
	} {
		if Same(long(none), long(change)) || Same(long(change), long(none)) || long(none).Root() == long(change).Root() {
			t.Errorf("the change %d makes no difference", i)
		}
	}
}

// orders goes through all orders of some numbers.
func orders(count int) [][]int {
	if count == 0 {
		return [][]int{nil}
	}
	var all [][]int
	for _, order := range orders(count - 1) {
		for at := range count {
			all = append(all, slices.Insert(slices.Clone(order), at, count-1))
		}
	}
	return all
}

// 15.4: the digests hang on what a tree has alone: all orders in which six paths are set, with another leaf ahead, and one more path that is taken away again.
func TestOrders(t *testing.T) {
	all := []api.Entry{entry("a", dead(1, 1)), entry("a/b", live(0, 1, "x")), entry("a-b", live(0, 2, "y")), entry("a/b/c", live(3, 1, ""), dead(4, 1)), entry("ab", dead(0, 7), live(2, 7, "z", 0, 6)), entry("b/c/d/e", live(0, 9, "w"))}
	want := made(t, all)
	hold(t, want, heldOf(all))
	entries, root, seen := want.Entries(), want.Root(), want.Seen()
	other := versions(live(60, 60, "other"))
	for i, order := range orders(len(all)) {
		tree := (*Tree)(nil)
		for at, number := range order {
			if at == i%6 {
				tree = with(t, with(t, tree, "b/c", other), all[order[5]].Path, other)
			}
			tree = with(t, tree, all[number].Path, all[number].Versions)
		}
		tree = with(t, tree, "b/c", nil)
		if !Same(tree, want) || tree.Root() != root || tree.Seen() != seen || !sameEntriesWords(tree.Entries(), entries) {
			t.Fatalf("in the order %v it is %s", order, tellEntries(tree.Entries()))
		}
	}
}

// 15.4: trees that differ have roots' digests that differ, and what is seen is the same just where the live versions are: all trees of six paths, each with one of five leaves.
func TestUnlike(t *testing.T) {
	paths := []string{"a", "a/b", "a/b/c", "a-b", "ab", "b"}
	x := live(0, 1, "x")
	leaves := [][]api.Version{nil, versions(x), versions(dead(0, 1)), versions(x, dead(1, 1)), versions(x, live(1, 1, "x"))}
	alive := []int{0, 1, 0, 1, 2} // which leaves are seen as the same
	roots, seen := map[api.Digest]bool{}, map[api.Digest]int{}
	for code := range 15625 {
		var l []api.Entry
		live := 0
		for i, rest := 0, code; i < len(paths); i, rest = i+1, rest/5 {
			l = append(l, api.Entry{Path: paths[i], Versions: leaves[rest%5]})
			live = live*3 + alive[rest%5]
		}
		tree := made(t, l)
		if roots[tree.Root()] {
			t.Fatalf("%s has a root's digest that another one has", tellEntries(l))
		}
		roots[tree.Root()] = true
		if was, met := seen[tree.Seen()]; met && was != live {
			t.Fatalf("%s is seen as one that shows another thing", tellEntries(l))
		}
		seen[tree.Seen()] = live
		if code%101 == 0 {
			hold(t, tree, heldOf(l))
		}
	}
	if len(roots) != 15625 || len(seen) != 729 {
		t.Errorf("%d roots, %d that are seen", len(roots), len(seen))
	}
}

// 15.1 to 15.4: drawn calls of Set, one behind the other, each held against the words.
func TestDrawn(t *testing.T) {
	draw := rand.New(rand.NewSource(152))
	met := map[api.Errno]int{}
	broken, wrong := brokenPaths(), brokenLeaves()
	for round := range 30 {
		tree, h := (*Tree)(nil), held{}
		for step := range 60 {
			path, l := drawnPath(draw), drawnLeaf(draw)
			switch draw.Intn(12) {
			case 0:
				path = broken[draw.Intn(len(broken))].path
			case 1:
				l = wrong[draw.Intn(len(wrong))].versions
			case 2:
				l = nil
			}
			want, fault := setWords(h, path, l)
			next, err := tree.Set(path, l)
			met[err]++
			if err != fault || (next == nil) != (err != api.OK) {
				t.Fatalf("%s at %s of %s: %v, not %v", tellLeaf(l), short(path), tellEntries(entriesWords(h)), err, fault)
			}
			if err == api.OK {
				tree, h = next, want
			}
			if !sameEntriesWords(tree.Entries(), entriesWords(h)) || tree.Root() != rootWords(h) || tree.Seen() != rootWords(aliveWords(h)) {
				t.Fatalf("with %s at %s it is %s", tellLeaf(l), short(path), tellEntries(tree.Entries()))
			}
			if step%20 == round%20 {
				hold(t, tree, h)
				holdAgain(t, draw, tree)
			}
		}
	}
	for _, err := range []api.Errno{api.OK, api.ErrPath, api.ErrSize, api.ErrPeer, api.ErrCount, api.ErrOrder, api.ErrForm} {
		if met[err] < 5 {
			t.Errorf("%v was met %d times", err, met[err])
		}
	}
}

// holdAgain holds that a tree's entries, in another order, and its nodes come to the same tree.
func holdAgain(t *testing.T, draw *rand.Rand, tree *Tree) {
	t.Helper()
	mixed := tree.Entries()
	draw.Shuffle(len(mixed), func(i, j int) { mixed[i], mixed[j] = mixed[j], mixed[i] })
	again := made(t, mixed)
	if !Same(tree, again) || again.Root() != tree.Root() || again.Seen() != tree.Seen() {
		t.Fatalf("of %s another tree comes", tellEntries(mixed))
	}
	if found := made(t, gathered(t, tree, "")); !Same(tree, found) {
		t.Fatalf("of the nodes of %s another tree comes", tellEntries(mixed))
	}
}

// gathered are the entries that the nodes of a directory and of all below it tell.
func gathered(t *testing.T, tree *Tree, dir string) []api.Entry {
	t.Helper()
	n, is := tree.Node(dir)
	if !is {
		t.Fatalf("there is no node of %q", dir)
	}
	var all []api.Entry
	if dir != "" {
		all = append(all, api.Entry{Path: dir, Versions: n.Versions})
	}
	for _, kid := range n.Kids {
		all = append(all, gathered(t, tree, strings.TrimPrefix(dir+"/"+kid.Name, "/"))...)
	}
	return all
}

// 15.2: what stands below is gone through from the first path on, each time that it is asked, and no further than it is wanted.
func TestBelow(t *testing.T) {
	all := entries("a", "a/b", "a/c/d", "a-", "b/c", "d")
	each := below("", all)
	for range 2 {
		var kids []string
		for kid, here := range each {
			kids = append(kids, kid+" "+strconv.Itoa(len(here)))
		}
		if !slices.Equal(kids, []string{"a 3", "a- 1", "b 1", "d 1"}) {
			t.Errorf("below the root there are %q", kids)
		}
		for kid := range each {
			if kid != "a" {
				t.Errorf("the first one is %q", kid)
			}
			break
		}
	}
}

// odd is what stands behind lists' ends.
func odd() (api.Version, api.Dot) {
	return api.Version{Dot: dot(77, 77), Data: "odd"}, dot(77, 77)
}

// roomy are versions whose lists have room behind their ends, with odd things there.
func roomy(l []api.Version) []api.Version {
	v, d := odd()
	l = append(slices.Clone(l), v)[:len(l)]
	for i, of := range l {
		l[i].Past = append(slices.Clone(of.Past), d)[:len(of.Past)]
	}
	return l
}

// behindEnds tells whether what stands behind the ends of a roomy list is there still.
func behindEnds(l []api.Version) bool {
	v, d := odd()
	last := l[:len(l)+1][len(l)]
	is := last.Dot == v.Dot && last.Data == v.Data
	for _, of := range l {
		is = is && of.Past[:len(of.Past)+1][len(of.Past)] == d
	}
	return is
}

// scribble writes over all that versions have, up to their lists' capacity.
func scribble(l []api.Version) {
	l = l[:cap(l)]
	for i := range l {
		past := l[i].Past[:cap(l[i].Past)]
		for j := range past {
			past[j] = dot(1, 1000)
		}
		l[i] = live(3, 3000, "over")
	}
}

// scribbleEntries writes over all that entries have.
func scribbleEntries(l []api.Entry) {
	l = l[:cap(l)]
	for i := range l {
		scribble(l[i].Versions)
		l[i] = entry("over", live(4, 4, "over"))
	}
}

// scribbleNode writes over all that a node has.
func scribbleNode(n api.Node) {
	scribble(n.Versions)
	kids := n.Kids[:cap(n.Kids)]
	for i := range kids {
		kids[i] = api.Kid{Name: "over"}
	}
}

// leavesToHand are leaves that are handed in: some that may be, and some that may not.
func leavesToHand() [][]api.Version {
	all := append(goodLeaves(), nil)
	for _, c := range brokenLeaves() {
		if len(c.versions) <= 65 {
			all = append(all, c.versions)
		}
	}
	return all
}

// R4: what is handed in to Set and Of is not changed, nor what lies behind lists' ends, nor kept: written over, it changes no tree.
func TestHandedIn(t *testing.T) {
	base := made(t, entries("a", "b/c"))
	for _, given := range leavesToHand() {
		for _, path := range []string{"a", "b", "b/c", "b/c/d", "c", "/"} {
			l := roomy(given)
			next, err := base.Set(path, l)
			if !sameLeafWords(l, given) || !behindEnds(l) {
				t.Fatalf("%s was changed: %s", tellLeaf(given), tellLeaf(l))
			}
			scribble(l)
			want, _ := setWords(heldOf(entries("a", "b/c")), path, given)
			if err == api.OK && (!sameEntriesWords(next.Entries(), entriesWords(want)) || next.Root() != rootWords(want)) {
				t.Fatalf("%s, written over, makes of the tree %s", tellLeaf(given), tellEntries(next.Entries()))
			}
		}
		l := []api.Entry{{Path: "x", Versions: roomy(given)}, {Path: "y", Versions: roomy(given)}, entry("odd")}[:2]
		tree, err := Of(l)
		for _, e := range l {
			if !sameLeafWords(e.Versions, given) || !behindEnds(e.Versions) || l[0].Path != "x" || l[1].Path != "y" || l[:3][2].Path != "odd" {
				t.Fatalf("%s was changed: %s", tellLeaf(given), tellEntries(l))
			}
		}
		scribbleEntries(l)
		if want := heldOf([]api.Entry{{Path: "x", Versions: given}, {Path: "y", Versions: given}}); err == api.OK {
			hold(t, tree, want)
		}
	}
	if !sameEntriesWords(base.Entries(), entries("a", "b/c")) {
		t.Errorf("the tree was changed: %s", tellEntries(base.Entries()))
	}
}

// R4: what Get, Entries and Node hand out is new memory: written over, it changes no tree, and nothing else that was handed out.
func TestHandedOut(t *testing.T) {
	l := goodLeaves()
	all := entries("c")
	for i, leaf := range l {
		all = append(all, api.Entry{Path: "a/p" + strconv.Itoa(i), Versions: leaf})
	}
	all = append(all, api.Entry{Path: "a", Versions: l[11]})
	h := heldOf(all)
	tree := made(t, all)
	next := with(t, with(t, tree, "c", nil), "d", versions(live(0, 1, "d")))
	later, _ := setWords(h, "d", versions(live(0, 1, "d")))
	delete(later, "c")
	check := func(what string) {
		t.Helper()
		if !sameEntriesWords(tree.Entries(), entriesWords(h)) || !sameEntriesWords(next.Entries(), entriesWords(later)) {
			t.Fatalf("%s, written over, changes a tree", what)
		}
	}
	for path, want := range h {
		first, second := tree.Get(path), tree.Get(path)
		scribble(first)
		if !sameLeafWords(second, want) {
			t.Fatalf("at %s there is %s, when another one was written over", path, tellLeaf(second))
		}
		check("what Get handed out of " + path)
	}
	for _, dir := range dirsWords(h) {
		first, _ := tree.Node(dir)
		second, _ := tree.Node(dir)
		scribbleNode(first)
		if !sameNodeWords(second, nodeIn(h, dir)) {
			t.Fatalf("the node of %s is %s, when another one was written over", dir, tellNode(second))
		}
		check("the node of " + dir)
	}
	first, second := tree.Entries(), tree.Entries()
	scribbleEntries(first)
	if !sameEntriesWords(second, entriesWords(h)) {
		t.Fatalf("the entries are %s, when others were written over", tellEntries(second))
	}
	check("what Entries handed out")
	hold(t, tree, h)
	hold(t, next, later)
}

// R4: no two lists that are handed out in one answer share memory, also where the tree was made of leaves that did.
func TestListsApart(t *testing.T) {
	past := list(0, 1, 9, 1)
	l := []api.Version{{Dot: dot(1, 1), Past: past}, {Dot: dot(2, 2), Past: past}, {Dot: dot(3, 3), Past: past}}
	tree := made(t, []api.Entry{{Path: "a", Versions: l}, {Path: "b", Versions: l}})
	n, _ := tree.Node("a")
	for _, leaf := range [][]api.Version{tree.Get("a"), n.Versions} {
		for i := range leaf {
			scribble(leaf[i : i+1 : i+1])
			leaf[i] = l[i]
			if !sameLeafWords(leaf, l) {
				t.Errorf("the Past of %d is another one's, too", i)
			}
		}
	}
	all := tree.Entries()
	scribble(all[0].Versions)
	if !sameLeafWords(all[1].Versions, l) {
		t.Errorf("the leaf of one path is another one's, too")
	}
}

// R1: calls of very long texts and lists come to an end soon.
func TestLong(t *testing.T) {
	tree := made(t, entries(manyPaths(mostPaths, deep)...))
	for _, s := range []string{strings.Repeat("a", 1<<24), strings.Repeat("/", 1<<24), strings.Repeat("a/", 1<<23), "a0/b0/c0/p0" + strings.Repeat("\x00", 1<<24)} {
		if n, is := tree.Node(s); is || !sameNodeWords(n, api.Node{}) || len(tree.Get(s)) != 0 {
			t.Errorf("there is something at %s", short(s))
		}
		holdWrong(t, tree, s, make([]api.Version, 1<<20), api.ErrSize)
	}
	holdWrong(t, tree, "a", make([]api.Version, 1<<20), api.ErrSize)
	path := tree.Entries()[0].Path
	same := make([]api.Entry, 1<<16)
	for i := range same {
		same[i] = entry(path, live(0, 1+i, ""))
	}
	if tree := made(t, same); tree.Len() != 1 || tree.Get(path)[0].Dot.Count != 1<<16 {
		t.Errorf("a path many times: %s", tellEntries(tree.Entries()))
	}
	if tree, err := Of(make([]api.Entry, 1<<20)); tree != nil || err != api.ErrPath {
		t.Errorf("many entries of no path: %v, %v", tree != nil, err)
	}
}

// R1, R4, R5: a tree that many ask and set at once tells all the same, and stays as it is.
func TestManyAtOnce(t *testing.T) {
	all := entries(goodPaths()...)
	h := heldOf(all)
	tree := made(t, all)
	root, seen := tree.Root(), tree.Seen()
	var each sync.WaitGroup
	for number := range 4 {
		each.Go(func() {
			x := versions(live(number, 50, "x"))
			for _, e := range all {
				next, err := tree.Set(e.Path, x)
				if err != api.OK || !sameLeafWords(next.Get(e.Path), x) || Same(next, tree) {
					t.Errorf("at %s, set at once, there is %s, %v", e.Path, tellLeaf(next.Get(e.Path)), err)
				}
				scribbleEntries(next.Entries())
				if n, is := next.Node(e.Path); !is || !sameLeafWords(n.Versions, x) {
					t.Errorf("the node of %s is %s, %v", e.Path, tellNode(n), is)
				}
			}
			if tree.Root() != root || tree.Seen() != seen || !sameEntriesWords(tree.Entries(), entriesWords(h)) {
				t.Errorf("the tree is another one")
			}
		})
	}
	each.Wait()
	hold(t, tree, h)
}

package tree

import (
	"crypto/sha256"
	"encoding/binary"
	"maps"
	"math"
	"math/rand"
	"slices"
	"strconv"
	"strings"

	"hearsay/api"
)

// The limits as numbers: of a count, of a version's data, of a name, of a path's names and bytes, of a tree's paths.
const (
	lastPeer  = 63
	top       = 1048576
	mostData  = 48
	mostName  = 12
	mostParts = 4
	mostPath  = 51
	mostPaths = 128
	signs     = "-.0123456789_abcdefghijklmnopqrstuvwxyz" // that may stand in a name, rising
)

// held is what a tree has by the chapter's words: of paths leaves, none of which is empty.
type held map[string][]api.Version

// short is a text, or its beginning, and how many bytes it has.
func short(s string) string {
	if len(s) <= 80 {
		return strconv.Quote(s)
	}
	return strconv.Quote(s[:80]) + " of " + strconv.Itoa(len(s))
}

// tellDots tells dots, or the first ones, in a few signs.
func tellDots(dots []api.Dot) string {
	s := "{"
	for _, d := range dots[:min(len(dots), 5)] {
		s += " " + strconv.Itoa(d.Peer) + ":" + strconv.Itoa(d.Count)
	}
	return s + " }"
}

// tellLeaf tells versions in a few signs.
func tellLeaf(l []api.Version) string {
	s := "("
	for _, v := range l[:min(len(l), 4)] {
		s += tellDots([]api.Dot{v.Dot}) + tellDots(v.Past) + strconv.FormatBool(v.Dead) + short(v.Data) + " "
	}
	return s + "of " + strconv.Itoa(len(l)) + ")"
}

// tellEntries tells entries in a few signs.
func tellEntries(l []api.Entry) string {
	s := "["
	for _, e := range l[:min(len(l), 8)] {
		s += short(e.Path) + tellLeaf(e.Versions) + " "
	}
	return s + "of " + strconv.Itoa(len(l)) + "]"
}

// tellNode tells a node in a few signs.
func tellNode(n api.Node) string {
	s := tellLeaf(n.Versions) + "["
	for _, kid := range n.Kids[:min(len(n.Kids), 5)] {
		s += short(kid.Name) + strconv.Quote(string(kid.Sum[:3])) + " "
	}
	return s + "of " + strconv.Itoa(len(n.Kids)) + "]"
}

// sameLeafWords tells whether two lists of versions are the same, field by field.
func sameLeafWords(l, m []api.Version) bool {
	return slices.EqualFunc(l, m, func(v, w api.Version) bool {
		return v.Dot.Peer == w.Dot.Peer && v.Dot.Count == w.Dot.Count && slices.Equal(v.Past, w.Past) && v.Dead == w.Dead && v.Data == w.Data
	})
}

// sameEntriesWords tells whether two lists of entries are the same.
func sameEntriesWords(l, m []api.Entry) bool {
	return slices.EqualFunc(l, m, func(d, e api.Entry) bool {
		return d.Path == e.Path && sameLeafWords(d.Versions, e.Versions)
	})
}

// sameNodeWords tells whether two nodes are the same.
func sameNodeWords(m, n api.Node) bool {
	return sameLeafWords(m.Versions, n.Versions) && slices.Equal(m.Kids, n.Kids)
}

// sameWords tells by 15.3's words whether two trees have the same paths and leaves.
func sameWords(a, b held) bool {
	return maps.EqualFunc(a, b, sameLeafWords)
}

// dot is a dot.
func dot(peer, count int) api.Dot {
	return api.Dot{Peer: peer, Count: count}
}

// list is a list of dots, told by peers and counts.
func list(numbers ...int) []api.Dot {
	var dots []api.Dot
	for i := 0; i+1 < len(numbers); i += 2 {
		dots = append(dots, dot(numbers[i], numbers[i+1]))
	}
	return dots
}

// live is a live version, its Past told by peers and counts.
func live(peer, count int, data string, past ...int) api.Version {
	return api.Version{Dot: dot(peer, count), Past: list(past...), Data: data}
}

// dead is one that is Dead.
func dead(peer, count int, past ...int) api.Version {
	return api.Version{Dot: dot(peer, count), Past: list(past...), Dead: true}
}

// versions are versions as a list.
func versions(l ...api.Version) []api.Version {
	return l
}

// entry is a path with versions.
func entry(path string, l ...api.Version) api.Entry {
	return api.Entry{Path: path, Versions: l}
}

// entries are these paths, each with a leaf of its own.
func entries(of ...string) []api.Entry {
	var all []api.Entry
	for i, path := range of {
		all = append(all, entry(path, live(i%64, 1+i, "data "+strconv.Itoa(i))))
	}
	return all
}

// everyPeer is a list of a dot of each peer, with one count.
func everyPeer(count int) []api.Dot {
	var dots []api.Dot
	for peer := range 64 {
		dots = append(dots, dot(peer, count))
	}
	return dots
}

// everyPeers are versions of all peers, each made by its peer.
func everyPeers(make func(peer int) api.Version) []api.Version {
	var l []api.Version
	for peer := range 64 {
		l = append(l, make(peer))
	}
	return l
}

// dotWords tells by chapter 5's words why a dot may not be.
func dotWords(d api.Dot) api.Errno {
	switch {
	case d.Peer < 0 || d.Peer > lastPeer:
		return api.ErrPeer
	case d.Count < 1 || d.Count > top:
		return api.ErrCount
	}
	return api.OK
}

// vectorWords tells by chapter 5's words why a list is no vector.
func vectorWords(v []api.Dot) api.Errno {
	ahead := -1
	for _, d := range v {
		if err := dotWords(d); err != api.OK {
			return err
		}
		if d.Peer <= ahead {
			return api.ErrOrder
		}
		ahead = d.Peer
	}
	return api.OK
}

// hasWords tells by chapter 5's words whether a vector has a dot.
func hasWords(v []api.Dot, d api.Dot) bool {
	return slices.ContainsFunc(v, func(of api.Dot) bool { return of.Peer == d.Peer && of.Count >= d.Count })
}

// versionWords tells by chapter 7's words why a version may not be.
func versionWords(v api.Version) api.Errno {
	if err := dotWords(v.Dot); err != api.OK {
		return err
	}
	if err := vectorWords(v.Past); err != api.OK {
		return err
	}
	switch {
	case hasWords(v.Past, v.Dot):
		return api.ErrOrder
	case len(v.Data) > mostData:
		return api.ErrSize
	case v.Dead && v.Data != "":
		return api.ErrForm
	}
	return api.OK
}

// leafWords tells by chapter 7's words why a leaf may not be.
func leafWords(l []api.Version) api.Errno {
	if len(l) > 64 {
		return api.ErrSize
	}
	ahead := -1
	for _, v := range l {
		if err := versionWords(v); err != api.OK {
			return err
		}
		if v.Dot.Peer <= ahead {
			return api.ErrOrder
		}
		ahead = v.Dot.Peer
	}
	for _, v := range l {
		for _, w := range l {
			if hasWords(v.Past, w.Dot) {
				return api.ErrForm
			}
		}
	}
	return api.OK
}

// nameWords tells by chapter 4's words whether a text is a name.
func nameWords(s string) bool {
	return s != "" && s != "." && s != ".." && len(s) <= mostName && strings.Trim(s, signs) == ""
}

// pathWords tells by chapter 4's words why a text is no path.
func pathWords(s string) api.Errno {
	if len(s) > mostPath {
		return api.ErrSize
	}
	names := strings.Split(s, "/")
	if len(names) > mostParts || !all(names, nameWords) {
		return api.ErrPath
	}
	return api.OK
}

// all tells whether something is so of all texts.
func all(of []string, is func(string) bool) bool {
	return !slices.ContainsFunc(of, func(s string) bool { return !is(s) })
}

// compareWords tells by chapter 4's words which of two texts stands ahead.
func compareWords(a, b string) int {
	return slices.Compare(strings.Split(a, "/"), strings.Split(b, "/"))
}

// setWords is by 15.1's words a tree with a leaf at a path, or what is wrong.
func setWords(h held, path string, l []api.Version) (held, api.Errno) {
	if err := pathWords(path); err != api.OK {
		return nil, err
	}
	if err := leafWords(l); err != api.OK {
		return nil, err
	}
	with := maps.Clone(h)
	if with == nil {
		with = held{}
	}
	delete(with, path)
	if len(l) > 0 {
		with[path] = copyOf(l)
	}
	if len(with) > mostPaths {
		return nil, api.ErrFull
	}
	return with, api.OK
}

// ofWords is by 15.3's words the tree of some entries, or what is wrong.
func ofWords(l []api.Entry) (held, api.Errno) {
	h := held{}
	for _, e := range l {
		next, err := setWords(h, e.Path, e.Versions)
		if err != api.OK {
			return nil, err
		}
		h = next
	}
	return h, api.OK
}

// entriesWords are by 15.1's words all paths and leaves.
func entriesWords(h held) []api.Entry {
	var all []api.Entry
	for _, path := range slices.SortedFunc(maps.Keys(h), compareWords) {
		all = append(all, api.Entry{Path: path, Versions: h[path]})
	}
	return all
}

// dirsWords are by the chapter's words all directories of which there is a node.
func dirsWords(h held) []string {
	dirs := map[string]bool{"": true}
	for path := range h {
		names := strings.Split(path, "/")
		for count := range names {
			dirs[strings.Join(names[:count+1], "/")] = true
		}
	}
	return slices.Sorted(maps.Keys(dirs))
}

// nodeWords is by the chapter's words the node of a directory; false: there is none.
func nodeWords(h held, dir string) (api.Node, bool) {
	if !slices.Contains(dirsWords(h), dir) {
		return api.Node{}, false
	}
	return nodeIn(h, dir), true
}

// nodeIn is the node of a directory, of which there is one.
func nodeIn(h held, dir string) api.Node {
	start := dir + "/"
	if dir == "" {
		start = ""
	}
	names := map[string]bool{}
	for path := range h {
		if rest, begins := strings.CutPrefix(path, start); begins {
			name, _, _ := strings.Cut(rest, "/")
			names[name] = true
		}
	}
	n := api.Node{Versions: h[dir]}
	for _, name := range slices.Sorted(maps.Keys(names)) {
		n.Kids = append(n.Kids, api.Kid{Name: name, Sum: sumWords(nodeIn(h, start+name))})
	}
	return n
}

// sumWords is by chapter 14's words a node's digest, by the library's SHA-256.
func sumWords(n api.Node) api.Digest {
	return sha256.Sum256(bytesWords(n))
}

// bytesWords are by the words of the chapters 11 and 14 a node's bytes.
func bytesWords(n api.Node) []byte {
	s := binary.AppendUvarint(nil, uint64(len(n.Versions)))
	for _, v := range n.Versions {
		s = putDot(s, v.Dot)
		s = binary.AppendUvarint(s, uint64(len(v.Past)))
		for _, d := range v.Past {
			s = putDot(s, d)
		}
		if v.Dead {
			s = append(s, 1)
		} else {
			s = append(s, 0)
		}
		s = putText(s, v.Data)
	}
	s = binary.AppendUvarint(s, uint64(len(n.Kids)))
	for _, kid := range n.Kids {
		s = append(putText(s, kid.Name), kid.Sum[:]...)
	}
	return s
}

// putDot puts a dot's numbers behind bytes.
func putDot(s []byte, d api.Dot) []byte {
	return binary.AppendUvarint(binary.AppendUvarint(s, uint64(d.Peer)), uint64(d.Count))
}

// putText puts a text's length and bytes behind bytes.
func putText(s []byte, text string) []byte {
	return append(binary.AppendUvarint(s, uint64(len(text))), text...)
}

// rootWords is by the chapter's words the root's digest.
func rootWords(h held) api.Digest {
	return sumWords(nodeIn(h, ""))
}

// aliveWords is by the chapter's words what is seen: the tree of the live versions alone.
func aliveWords(h held) held {
	seen := held{}
	for path, l := range h {
		var alive []api.Version
		for _, v := range l {
			if !v.Dead {
				alive = append(alive, v)
			}
		}
		if len(alive) > 0 {
			seen[path] = alive
		}
	}
	return seen
}

// goodLeaves are leaves of each kind, none of which is empty.
func goodLeaves() [][]api.Version {
	full := func(count int) func(int) api.Version {
		return func(peer int) api.Version {
			v := api.Version{Dot: dot(peer, count+1), Past: everyPeer(count), Data: strings.Repeat("d", peer%49)}
			v.Dead = v.Data == ""
			return v
		}
	}
	return [][]api.Version{
		versions(live(0, 1, "")), versions(live(0, 1, "x")), versions(dead(0, 1)), versions(live(1, 3, "hi", 0, 1)), versions(live(lastPeer, top, strings.Repeat("\xff", mostData))), versions(dead(lastPeer, top, lastPeer, top-1)), versions(live(0, 128, "\x80\x01", 0, 127)),
		versions(live(0, 2, "y", 0, 1), live(1, 1, "o", 0, 1)), versions(live(0, 1, "x"), dead(lastPeer, 1)), versions(dead(0, 1), live(7, 2, "")), versions(dead(0, 1), dead(1, 1)), versions(live(3, 1, "a", 0, 9, 5, 1), dead(5, 2, 0, 7, 9, 9), live(8, 4, "c", 5, 1, 8, 3)),
		everyPeers(func(peer int) api.Version { return live(peer, 1, "x") }), everyPeers(func(peer int) api.Version { return dead(peer, top) }), everyPeers(full(1)), everyPeers(full(top - 1)),
	}
}

// brokenLeaf are versions that are no leaf, and why.
type brokenLeaf struct {
	versions []api.Version
	err      api.Errno
}

// brokenLeaves are lists that are no leaves, by each of CheckLeaf's errors.
func brokenLeaves() []brokenLeaf {
	var all []brokenLeaf
	add := func(err api.Errno, lists ...[]api.Version) {
		for _, l := range lists {
			all = append(all, brokenLeaf{l, err})
		}
	}
	one := func(peer int) api.Version { return live(peer, 1, "x") }
	x, y := one(0), one(1)
	big := strings.Repeat("d", mostData+1)
	deadWith := x
	deadWith.Dead = true
	add(api.ErrSize, append(everyPeers(one), one(lastPeer)), make([]api.Version, 65), make([]api.Version, 5000), versions(live(0, 1, big)), versions(x, live(1, 1, big, 0, 1)), versions(live(0, 1, strings.Repeat("d", api.MaxText+1))))
	add(api.ErrPeer, versions(one(-1)), versions(one(64)), versions(x, one(64)), versions(one(math.MaxInt)), versions(one(math.MinInt)), versions(live(5, 1, "", 64, 1)), versions(live(5, 1, "", 0, 1, -1, 1)))
	add(api.ErrCount, make([]api.Version, 1), make([]api.Version, 64), versions(live(0, 0, "x")), versions(live(0, top+1, "x")), versions(live(0, -1, "x")), versions(x, live(1, 0, "")), versions(live(5, 1, "", 0, 0)), versions(live(5, 1, "", 0, top+1)))
	add(api.ErrOrder, versions(y, x), versions(x, x), versions(x, one(2), y), versions(live(0, 1, "", 0, 1)), versions(live(5, 1, "", 1, 1, 0, 1)), versions(live(5, 1, "", 1, 1, 1, 1)), append(everyPeers(one)[:63], one(62)))
	add(api.ErrForm, versions(deadWith), versions(x, live(1, 1, "o", 0, 1)), versions(live(0, 1, "", 1, 1), y), versions(dead(0, 1), dead(1, 1, 0, 1)), append(everyPeers(one)[:63], live(lastPeer, 1, "", 0, 1)))
	return all
}

// longest is a path as long as one may be.
func longest(last string) string {
	name := strings.Repeat("n", mostName)
	return name + "/" + name + "/" + name + "/" + strings.Repeat("m", mostName-len(last)) + last
}

// goodPaths are paths, rising by 4's Compare: some that byte by byte stand otherwise ("a-b" ahead of "a/b"), names that others begin with, and the longest ones.
func goodPaths() []string {
	return []string{"-", "...", "0", "_", "a", "a/-", "a/b", "a/b/c", "a/b/c/d", "a/b/c/d.", "a/b/c.d", "a/b-c", "a/bb", "a/c", "a-", "a-b", "a-b/c", "a.b", "a0", "a_", "aa", "aa/a", "ab", "ab/b", "b/a/a/a", "b/a/a/b", "b/a/b", longest("k"), longest("z"), "z/z/z/z", "zz"}
}

// brokenPath is a text that is no path, and why.
type brokenPath struct {
	path string
	err  api.Errno
}

// brokenPaths are texts that are no paths, by both of Check's errors.
func brokenPaths() []brokenPath {
	var all []brokenPath
	add := func(err api.Errno, texts ...string) {
		for _, s := range texts {
			all = append(all, brokenPath{s, err})
		}
	}
	add(api.ErrPath, "", "/", ".", "..", "a/", "/a", "a//b", "a/b/", "a/..", "./a", "a/./b", "a/b/c/d/e", "A", "a/B", "a b", "a\x00", "\x00", "é", "a\xff", "a+b", "a\\b", strings.Repeat("n", mostName+1), "a/"+strings.Repeat("n", mostName+1), strings.Repeat("n", mostPath), "///", "////", longest("")[:mostPath-1]+"/")
	add(api.ErrSize, longest("")+"n", strings.Repeat("n", mostPath+1), strings.Repeat("/", mostPath+1), longest("")+"/a", strings.Repeat("a/", 1000), strings.Repeat("\x00", api.MaxText+1))
	return all
}

// manyPaths are so many paths, each below a directory that is told by a function of its number.
func manyPaths(count int, dir func(int) string) []string {
	var all []string
	for i := range count {
		all = append(all, dir(i)+"p"+strconv.Itoa(i))
	}
	return all
}

// flat, shared and deep tell directories: the root, one of nine, and one of each path's own.
func flat(int) string { return "" }

func shared(i int) string { return "s" + strconv.Itoa(i%3) + "/t" + strconv.Itoa(i%9) + "/" }

func deep(i int) string {
	number := strconv.Itoa(i)
	return "a" + number + "/b" + number + "/c" + number + "/"
}

// drawnVector is a vector that is drawn, each peer of which has at most high.
func drawnVector(draw *rand.Rand, high int) []api.Dot {
	var v []api.Dot
	every := 1 + draw.Intn(30)
	for peer := range 64 {
		if draw.Intn(every) == 0 {
			v = append(v, dot(peer, 1+draw.Intn(high)))
		}
	}
	return v
}

// drawnLeaf is a leaf that is drawn, often an empty one. None covers another one, as the counts of Dots are above those of Pasts.
func drawnLeaf(draw *rand.Rand) []api.Version {
	if draw.Intn(5) == 0 {
		return nil
	}
	high := 1 + draw.Intn(top/2)>>draw.Intn(20)
	var l []api.Version
	for _, d := range drawnVector(draw, high) {
		v := api.Version{Dot: dot(d.Peer, d.Count+high), Past: drawnVector(draw, high), Dead: draw.Intn(2) == 0}
		if !v.Dead {
			data := make([]byte, draw.Intn(mostData+1))
			draw.Read(data)
			v.Data = string(data)
		}
		l = append(l, v)
	}
	return l[:min(len(l), 1+draw.Intn(4))]
}

// drawnPath is a path that is drawn, of few names, so that many meet.
func drawnPath(draw *rand.Rand) string {
	few := []string{"a", "a-", "a.b", "ab", "b", "c"}
	var names []string
	for range 1 + draw.Intn(mostParts) {
		names = append(names, few[draw.Intn(len(few))])
	}
	return strings.Join(names, "/")
}

// copyOf is a list of versions that shares no memory with another one.
func copyOf(l []api.Version) []api.Version {
	l = slices.Clone(l)
	for i := range l {
		l[i].Past = slices.Clone(l[i].Past)
	}
	return l
}

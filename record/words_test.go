package record

import (
	"encoding/binary"
	"math"
	"math/rand"
	"slices"
	"strconv"
	"strings"

	"hearsay/api"
	"hearsay/coder"
)

const (
	lastPeer = 63
	top      = 1048576 // the limits as numbers: of a count, of a file's bytes, of a path's bytes
	mostData = 48
	mostPath = 51
)

// The kinds of things that are put and taken.
const (
	vector = "vector"
	leaf   = "leaf"
	entry  = "entry"
)

// thing is a vector, a leaf or an entry.
type thing struct {
	kind     string
	dots     []api.Dot     // of a vector
	versions []api.Version // of a leaf and an entry
	path     string        // of an entry
}

// aVector, aLeaf and named, an entry of a leaf's versions, are things.
func aVector(dots []api.Dot) thing      { return thing{kind: vector, dots: dots} }
func aLeaf(l ...api.Version) thing      { return thing{kind: leaf, versions: l} }
func named(path string, of thing) thing { return thing{kind: entry, versions: of.versions, path: path} }

// String tells a thing in a few signs.
func (x thing) String() string {
	s := x.kind + " " + strconv.Quote(short(x.path)) + tellDots(x.dots)
	for _, v := range x.versions[:min(len(x.versions), 5)] {
		s += " " + tellDots([]api.Dot{v.Dot}) + tellDots(v.Past) + strconv.FormatBool(v.Dead) + strconv.Quote(short(v.Data))
	}
	return s + " of " + strconv.Itoa(len(x.versions))
}

// tellDots tells dots, or the first ones, in a few signs.
func tellDots(dots []api.Dot) string {
	s := "{"
	for _, d := range dots[:min(len(dots), 5)] {
		s += " " + strconv.Itoa(d.Peer) + ":" + strconv.Itoa(d.Count)
	}
	return s + " }"
}

// short is a text, or its beginning.
func short(s string) string {
	return s[:min(len(s), 60)]
}

// same tells whether two things are the same in all that they have.
func same(x, y thing) bool {
	return x.kind == y.kind && x.path == y.path && slices.Equal(x.dots, y.dots) && slices.EqualFunc(x.versions, y.versions, sameVersion)
}

// sameVersion tells whether two versions are.
func sameVersion(v, w api.Version) bool {
	return v.Dot == w.Dot && slices.Equal(v.Past, w.Past) && v.Dead == w.Dead && v.Data == w.Data
}

// putBy puts a thing.
func putBy(w *coder.Writer, x thing) {
	switch x.kind {
	case vector:
		PutVec(w, x.dots)
	case leaf:
		PutLeaf(w, x.versions)
	case entry:
		PutEntry(w, api.Entry{Path: x.path, Versions: x.versions})
	}
}

// takeBy takes a thing.
func takeBy(r *coder.Reader, kind string) thing {
	switch kind {
	case vector:
		return aVector(TakeVec(r))
	case leaf:
		return aLeaf(TakeLeaf(r)...)
	}
	x := TakeEntry(r)
	return thing{kind: entry, path: x.Path, versions: x.Versions}
}

// bytesBy are a thing's bytes alone; of an entry, by a Writer.
func bytesBy(x thing) (string, api.Errno) {
	switch x.kind {
	case vector:
		return Vec(x.dots)
	case leaf:
		return Leaf(x.versions)
	}
	var w coder.Writer
	putBy(&w, x)
	return w.Done()
}

// thingBy is the thing that bytes are; an entry, by a Reader.
func thingBy(s, kind string) (thing, api.Errno) {
	switch kind {
	case vector:
		dots, err := VecOf(s)
		return aVector(dots), err
	case leaf:
		l, err := LeafOf(s)
		return aLeaf(l...), err
	}
	r := coder.New(s)
	x := takeBy(r, entry)
	if err := r.Done(); err != api.OK {
		return thing{kind: entry}, err
	}
	return x, api.OK
}

// dot is a dot.
func dot(peer, count int) api.Dot {
	return api.Dot{Peer: peer, Count: count}
}

// list is a list of dots, told by peers and counts.
func list(numbers ...int) []api.Dot {
	var dots []api.Dot
	for i := 0; i+1 < len(numbers); i += 2 {
		dots = append(dots, dot(numbers[i], numbers[i+1]))
	}
	return dots
}

// live is a live version, its Past told by peers and counts.
func live(peer, count int, data string, past ...int) api.Version {
	return api.Version{Dot: dot(peer, count), Past: list(past...), Data: data}
}

// dead is one that is Dead.
func dead(peer, count int, past ...int) api.Version {
	return api.Version{Dot: dot(peer, count), Past: list(past...), Dead: true}
}

// deadWith is one that is Dead and has data, too, which may not be.
func deadWith(data string, peer, count int, past ...int) api.Version {
	return api.Version{Dot: dot(peer, count), Past: list(past...), Dead: true, Data: data}
}

// everyPeer is a list of a dot of each peer, with one count.
func everyPeer(count int) []api.Dot {
	var dots []api.Dot
	for peer := range 64 {
		dots = append(dots, dot(peer, count))
	}
	return dots
}

// everyPeers are versions of all peers, each made by its peer.
func everyPeers(make func(peer int) api.Version) []api.Version {
	var l []api.Version
	for peer := range 64 {
		l = append(l, make(peer))
	}
	return l
}

// dotWords tells by chapter 5's words why a dot may not be.
func dotWords(d api.Dot) api.Errno {
	switch {
	case d.Peer < 0 || d.Peer > lastPeer:
		return api.ErrPeer
	case d.Count < 1 || d.Count > top:
		return api.ErrCount
	}
	return api.OK
}

// vectorWords tells by chapter 5's words why a list is no vector.
func vectorWords(v []api.Dot) api.Errno {
	ahead := -1
	for _, d := range v {
		if err := dotWords(d); err != api.OK {
			return err
		}
		if d.Peer <= ahead {
			return api.ErrOrder
		}
		ahead = d.Peer
	}
	return api.OK
}

// hasWords tells by chapter 5's words whether a vector has a dot.
func hasWords(v []api.Dot, d api.Dot) bool {
	return slices.ContainsFunc(v, func(of api.Dot) bool { return of.Peer == d.Peer && of.Count >= d.Count })
}

// versionWords tells by chapter 7's words why a version may not be.
func versionWords(v api.Version) api.Errno {
	if err := dotWords(v.Dot); err != api.OK {
		return err
	}
	if err := vectorWords(v.Past); err != api.OK {
		return err
	}
	switch {
	case hasWords(v.Past, v.Dot):
		return api.ErrOrder
	case len(v.Data) > mostData:
		return api.ErrSize
	case v.Dead && v.Data != "":
		return api.ErrForm
	}
	return api.OK
}

// leafWords tells by chapter 7's words why a leaf may not be.
func leafWords(l []api.Version) api.Errno {
	if len(l) > 64 {
		return api.ErrSize
	}
	ahead := -1
	for _, v := range l {
		if err := versionWords(v); err != api.OK {
			return err
		}
		if v.Dot.Peer <= ahead {
			return api.ErrOrder
		}
		ahead = v.Dot.Peer
	}
	for _, v := range l {
		for _, w := range l {
			if hasWords(v.Past, w.Dot) {
				return api.ErrForm
			}
		}
	}
	return api.OK
}

// pathWords tells by chapter 4's words why a text is no path.
func pathWords(s string) api.Errno {
	if len(s) > mostPath {
		return api.ErrSize
	}
	names := strings.Split(s, "/")
	for _, name := range names {
		odd := strings.Trim(name, "abcdefghijklmnopqrstuvwxyz0123456789._-") != ""
		if name == "" || name == "." || name == ".." || len(name) > 12 || odd {
			return api.ErrPath
		}
	}
	if len(names) > 4 {
		return api.ErrPath
	}
	return api.OK
}

// wrongWords tells by 11.1's words what is wrong of a thing that is put.
func wrongWords(x thing) api.Errno {
	switch x.kind {
	case vector:
		return vectorWords(x.dots)
	case entry:
		if err := pathWords(x.path); err != api.OK {
			return err
		}
	}
	return leafWords(x.versions)
}

// part is a number, a text or a flag of a thing's bytes.
type part struct {
	what string // number, text, flag
	s    string // its bytes
	most int    // what the number, or the text's length, may be at most
}

// number, text and flag are parts.
func number(n, most int) part {
	return part{"number", string(binary.AppendUvarint(nil, uint64(n))), most}
}

func text(s string, most int) part {
	return part{"text", number(len(s), most).s + s, most}
}

func flag(is bool) part {
	if is {
		return part{"flag", "\x01", 1}
	}
	return part{"flag", "\x00", 1}
}

// dotsParts are by the chapter's words the parts of a vector's bytes.
func dotsParts(v []api.Dot) []part {
	parts := []part{number(len(v), 64)}
	for _, d := range v {
		parts = append(parts, number(d.Peer, 63), number(d.Count, top))
	}
	return parts
}

// versionsParts are those of a leaf's.
func versionsParts(l []api.Version) []part {
	parts := []part{number(len(l), 64)}
	for _, v := range l {
		parts = append(parts, number(v.Dot.Peer, 63), number(v.Dot.Count, top))
		parts = append(parts, dotsParts(v.Past)...)
		parts = append(parts, flag(v.Dead), text(v.Data, mostData))
	}
	return parts
}

// partsOf are a thing's. A thing that may not be has parts, too, if only its numbers are none below 0.
func partsOf(x thing) []part {
	switch x.kind {
	case vector:
		return dotsParts(x.dots)
	case leaf:
		return versionsParts(x.versions)
	}
	return append([]part{text(x.path, mostPath)}, versionsParts(x.versions)...)
}

// together are parts, one behind the other.
func together(parts []part) string {
	var s strings.Builder
	for _, p := range parts {
		s.WriteString(p.s)
	}
	return s.String()
}

// bytesWords are by 11.1's words the bytes that are put of a thing, or what is wrong.
func bytesWords(x thing) (string, api.Errno) {
	if err := wrongWords(x); err != api.OK {
		return "", err
	}
	return together(partsOf(x)), api.OK
}

// reading is a Reader by chapter 10's words: what is left, and what is wrong.
type reading struct {
	left string
	err  api.Errno
}

// fail keeps what is wrong first.
func (m *reading) fail(e api.Errno) {
	if m.err == api.OK {
		m.err = e
	}
}

// number takes a number, at most one.
func (m *reading) number(most int) int {
	n, size, err := numberWords(m.left, most)
	m.fail(err)
	if m.err != api.OK {
		return 0
	}
	m.left = m.left[size:]
	return n
}

// text takes a text of so many bytes at most.
func (m *reading) text(most int) string {
	n, size, err := numberWords(m.left, most)
	if err == api.OK && n > len(m.left)-size {
		err = api.ErrShort
	}
	m.fail(err)
	if m.err != api.OK {
		return ""
	}
	s := m.left[size : size+n]
	m.left = m.left[size+n:]
	return s
}

// flag takes whether something is so.
func (m *reading) flag() bool {
	if m.left == "" {
		m.fail(api.ErrShort)
	} else if m.left[0] > 1 {
		m.fail(api.ErrForm)
	}
	if m.err != api.OK {
		return false
	}
	is := m.left[0] == 1
	m.left = m.left[1:]
	return is
}

// numberWords is by 1.2's words the number that a text begins with, and how many bytes it has, if it is at most one.
func numberWords(s string, most int) (int, int, api.Errno) {
	last := slices.IndexFunc([]byte(s[:min(len(s), 5)]), func(b byte) bool { return b < 128 })
	switch {
	case last < 0 && len(s) < 5:
		return 0, 0, api.ErrShort
	case last < 0:
		return 0, 0, api.ErrSize
	case last > 0 && s[last] == 0:
		return 0, 0, api.ErrForm
	}
	n, _ := binary.Uvarint([]byte(s[:last+1]))
	if n > uint64(most) {
		return 0, 0, api.ErrSize
	}
	return int(n), last + 1, api.OK
}

// vector takes a vector by 11.2's words.
func (m *reading) vector() []api.Dot {
	var v []api.Dot
	for n := m.number(64); len(v) < n && m.err == api.OK; {
		peer := m.number(63)
		v = append(v, dot(peer, m.number(top)))
	}
	if m.err == api.OK {
		m.err = vectorWords(v)
	}
	if m.err != api.OK {
		return nil
	}
	return v
}

// leaf takes a leaf by 11.2's words.
func (m *reading) leaf() []api.Version {
	var l []api.Version
	for n := m.number(64); len(l) < n && m.err == api.OK; {
		var v api.Version
		v.Dot.Peer = m.number(63)
		v.Dot.Count = m.number(top)
		v.Past = m.vector()
		v.Dead = m.flag()
		v.Data = m.text(mostData)
		l = append(l, v)
	}
	if m.err == api.OK {
		m.err = leafWords(l)
	}
	if m.err != api.OK {
		return nil
	}
	return l
}

// take takes a thing by 11.2's words.
func (m *reading) take(kind string) thing {
	x := thing{kind: kind}
	switch kind {
	case vector:
		x.dots = m.vector()
		return x
	case entry:
		x.path = m.text(mostPath)
		if m.err == api.OK {
			m.err = pathWords(x.path)
		}
	}
	x.versions = m.leaf()
	if m.err != api.OK {
		return thing{kind: kind}
	}
	return x
}

// goodVectors are vectors of each kind: none, one dot, each edge, and all peers.
func goodVectors() [][]api.Dot {
	return [][]api.Dot{
		nil, {}, list(0, 1), list(0, 2, 3, 1), list(0, top), list(lastPeer, 1), list(lastPeer, top), list(0, 127, 1, 128), list(5, 16383, 6, 16384), list(0, 1, lastPeer, top), list(0, 1, 1, 1, 2, 1, 3, 300),
		everyPeer(1), everyPeer(200), everyPeer(top), everyPeer(1)[1:], everyPeer(7)[:63],
	}
}

// broken is a thing that may not be, and what is wrong of it.
type broken struct {
	x   thing
	err api.Errno
}

// brokenVectors are lists that are no vectors.
func brokenVectors() []broken {
	var all []broken
	add := func(err api.Errno, lists ...[]api.Dot) {
		for _, v := range lists {
			all = append(all, broken{aVector(v), err})
		}
	}
	add(api.ErrPeer, list(-1, 1), list(64, 1), list(math.MinInt, 1), list(math.MaxInt, 1), list(-1, 0), list(64, top+1), list(0, 1, 64, 1), list(1, 1, -1, 1), list(0, 1, 1, 1, 65, 1, 2, 0), list(1<<30+1, 1), append(everyPeer(1), dot(64, 1)))
	add(api.ErrCount, list(0, 0), list(0, -1), list(0, top+1), list(lastPeer, 0), list(lastPeer, top+1), list(0, math.MinInt), list(0, math.MaxInt), list(0, 1, 1, 0), list(1, 1, 0, 0), list(1, 1, 1, top+1), list(0, 0, 64, 1), list(0, 1<<30+1), make([]api.Dot, 65), append(everyPeer(1)[:63], dot(lastPeer, 0)))
	add(api.ErrOrder, list(0, 1, 0, 1), list(0, 1, 0, 2), list(1, 1, 0, 1), list(0, 1, 2, 1, 1, 1), list(lastPeer, 1, lastPeer, 1), list(0, 1, 0, 1, 64, 1), list(1, 1, 0, 1, 2, 0), append(everyPeer(1), dot(lastPeer, 1)), append(everyPeer(1), dot(0, 1)), append(list(5, 1), everyPeer(1)...))
	return all
}

// goodLeaves are leaves of each kind.
func goodLeaves() []thing {
	full := func(count int) func(int) api.Version {
		return func(peer int) api.Version {
			v := api.Version{Dot: dot(peer, count+1), Past: everyPeer(count), Data: strings.Repeat("d", peer%49)}
			v.Dead = v.Data == ""
			return v
		}
	}
	return []thing{
		aLeaf(), {kind: leaf, versions: []api.Version{}}, aLeaf(live(0, 1, "")), aLeaf(live(0, 1, "x")), aLeaf(dead(0, 1)), aLeaf(live(1, 3, "hi", 0, 1)), aLeaf(live(lastPeer, top, strings.Repeat("\xff", mostData))), aLeaf(dead(lastPeer, top, lastPeer, top-1)), aLeaf(live(0, 1, "\x00")), aLeaf(live(0, 128, "\x80\x01", 0, 127)), aLeaf(api.Version{Dot: dot(4, 1), Past: []api.Dot{}}),
		aLeaf(live(0, 2, "y", 0, 1), live(1, 1, "o", 0, 1)), aLeaf(live(0, 1, "x"), dead(lastPeer, 1)), aLeaf(dead(0, 1), dead(1, 1)), aLeaf(live(0, top, "", lastPeer, top-1), live(lastPeer, top, "", 0, top-1)), aLeaf(live(3, 1, "a", 0, 9, 5, 1), dead(5, 2, 0, 7, 9, 9), live(8, 4, "c", 5, 1, 8, 3)), aLeaf(live(2, 1, "", 0, 300, 1, 1)),
		aLeaf(everyPeers(func(peer int) api.Version { return live(peer, 1, "x") })...), aLeaf(everyPeers(func(peer int) api.Version { return dead(peer, top) })...), aLeaf(everyPeers(full(1))...), aLeaf(everyPeers(full(top - 1))...),
	}
}

// brokenLeaves are leaves that may not be, each wrong list as a Past among them.
func brokenLeaves() []broken {
	var all []broken
	add := func(err api.Errno, things ...thing) {
		for _, x := range things {
			all = append(all, broken{x, err})
		}
	}
	one := func(peer int) api.Version { return live(peer, 1, "x") }
	x, y, z := one(0), one(1), one(2)
	big := strings.Repeat("d", mostData+1)
	add(api.ErrSize, aLeaf(append(everyPeers(one), one(lastPeer))...), aLeaf(append(everyPeers(one), one(64))...), aLeaf(make([]api.Version, 65)...), aLeaf(make([]api.Version, 5000)...), aLeaf(live(0, 1, big)), aLeaf(live(lastPeer, top, big, 0, 1)), aLeaf(live(0, 1, strings.Repeat("d", 1000))), aLeaf(deadWith(big, 0, 1)), aLeaf(x, live(1, 1, big)), aLeaf(x, live(1, 1, big, 0, 1)), aLeaf(live(0, 1, strings.Repeat("d", api.MaxText+1))))
	add(api.ErrPeer, aLeaf(one(-1)), aLeaf(one(64)), aLeaf(live(-1, 0, big, 5, 0)), aLeaf(x, one(64)), aLeaf(one(math.MaxInt)), aLeaf(one(math.MinInt)), aLeaf(append(everyPeers(one)[:63], one(64))...))
	add(api.ErrCount, aLeaf(api.Version{}), aLeaf(live(0, 0, "x")), aLeaf(live(0, top+1, "x")), aLeaf(live(0, -1, "x")), aLeaf(x, live(1, 0, "")), aLeaf(y, live(0, 0, "")), aLeaf(make([]api.Version, 64)...))
	add(api.ErrOrder, aLeaf(y, x), aLeaf(x, x), aLeaf(x, z, y), aLeaf(live(0, 2, "x"), live(0, 1, "x")), aLeaf(live(0, 1, "", 0, 1)), aLeaf(live(0, 1, big, 0, 1)), aLeaf(dead(lastPeer, top, lastPeer, top)), aLeaf(append(everyPeers(one)[:63], one(62))...))
	add(api.ErrForm, aLeaf(deadWith("x", 0, 1)), aLeaf(deadWith("\x00", lastPeer, top)), aLeaf(deadWith(big[1:], 0, 2, 0, 1)), aLeaf(x, live(1, 1, "o", 0, 1)), aLeaf(live(0, 1, "", 1, 1), y), aLeaf(live(0, 1, "", 1, 1), live(1, 1, "", 0, 1)), aLeaf(x, y, live(2, 1, "", 1, 9)), aLeaf(dead(0, 1), dead(1, 1, 0, 1)), aLeaf(append(everyPeers(one)[:63], live(lastPeer, 1, "", 0, 1))...))
	for _, c := range brokenVectors() {
		add(c.err, aLeaf(api.Version{Dot: dot(7, 4), Past: c.x.dots, Data: big}), aLeaf(live(6, 1, "x"), api.Version{Dot: dot(7, 4), Past: c.x.dots}))
	}
	return all
}

// goodPaths are paths.
func goodPaths() []string {
	return []string{"a", "a/b.c", "...", "-", "_/0/9/z", "abcdefghijkl", "abcdefghijkl/abcdefghijkl/abcdefghijkl/abcdefghijkl"}
}

// brokenPath is a text that is no path, and why.
type brokenPath struct {
	path string
	err  api.Errno
}

// brokenPaths are texts that are no paths.
func brokenPaths() []brokenPath {
	var all []brokenPath
	for _, path := range []string{"", "/", "/a", "a/", "a//b", ".", "a/..", "A", "a b", "a\x00b", "\x00", "a\xff", "a/b/c/d/e", "abcdefghijklm", strings.Repeat("a", mostPath), strings.Repeat("/", mostPath)} {
		all = append(all, brokenPath{path, api.ErrPath})
	}
	for _, path := range []string{strings.Repeat("abcdefghijkl/", 4), strings.Repeat("a", mostPath+1), strings.Repeat("/", 300), strings.Repeat("a", api.MaxText+1)} {
		all = append(all, brokenPath{path, api.ErrSize})
	}
	return all
}

// goodThings are things of all kinds that may be.
func goodThings() []thing {
	var all []thing
	for _, v := range goodVectors() {
		all = append(all, aVector(v))
	}
	for i, l := range goodLeaves() {
		all = append(all, l, named(goodPaths()[i%len(goodPaths())], l))
	}
	for i, path := range goodPaths() {
		all = append(all, named(path, goodLeaves()[i]))
	}
	return all
}

// brokenThings are things of all kinds that may not be.
func brokenThings() []broken {
	all := brokenVectors()
	for i, c := range brokenLeaves() {
		all = append(all, c, broken{named(goodPaths()[i%len(goodPaths())], c.x), c.err})
	}
	for _, c := range brokenPaths() {
		all = append(all, broken{named(c.path, aLeaf()), c.err}, broken{named(c.path, aLeaf(live(0, 1, "x"))), c.err})
	}
	return all
}

// drawnVector is a vector that is drawn, of peers from 0 on, each of which has at most high.
func drawnVector(draw *rand.Rand, high int) []api.Dot {
	var v []api.Dot
	every := 1 + draw.Intn(12)
	for peer := range 64 {
		if draw.Intn(every) == 0 {
			v = append(v, dot(peer, 1+draw.Intn(high)))
		}
	}
	return v
}

// drawnLeaf is a leaf that is drawn. None covers another one, as the counts of Dots are above those of Pasts.
func drawnLeaf(draw *rand.Rand) thing {
	high := 1 + draw.Intn(top/2)>>draw.Intn(20)
	l := aLeaf()
	for _, d := range drawnVector(draw, high) {
		v := api.Version{Dot: dot(d.Peer, d.Count+high), Past: drawnVector(draw, high), Dead: draw.Intn(3) == 0}
		if !v.Dead {
			data := make([]byte, draw.Intn(mostData+1))
			draw.Read(data)
			v.Data = string(data)
		}
		l.versions = append(l.versions, v)
	}
	return l
}

// drawnThing is a thing that is drawn, of any kind, and may be.
func drawnThing(draw *rand.Rand) thing {
	switch draw.Intn(3) {
	case 0:
		return aVector(drawnVector(draw, 1+draw.Intn(top)>>draw.Intn(20)))
	case 1:
		return drawnLeaf(draw)
	}
	const signs = "abyz0189._-"
	names := make([]string, 1+draw.Intn(4))
	for i := range names {
		names[i] = "n"
		for range draw.Intn(12) {
			names[i] += string(signs[draw.Intn(len(signs))])
		}
	}
	return named(strings.Join(names, "/"), drawnLeaf(draw))
}

package node

import (
	"crypto/sha256"
	"encoding/binary"
	"math"
	"math/rand"
	"slices"
	"strconv"
	"strings"

	"hearsay/api"
)

// The limits as numbers: of a count, of a version's data, of a name's bytes, of a node's kids.
const (
	lastPeer = 63
	top      = 1048576
	mostData = 48
	mostName = 12
	mostKids = 128
	signs    = "-.0123456789_abcdefghijklmnopqrstuvwxyz" // that may stand in a name, rising
)

// short is a text, or its beginning, and how many bytes it has.
func short(s string) string {
	if len(s) <= 80 {
		return strconv.Quote(s)
	}
	return strconv.Quote(s[:80]) + " of " + strconv.Itoa(len(s))
}

// tellDots tells dots, or the first ones, in a few signs.
func tellDots(dots []api.Dot) string {
	s := "{"
	for _, d := range dots[:min(len(dots), 5)] {
		s += " " + strconv.Itoa(d.Peer) + ":" + strconv.Itoa(d.Count)
	}
	return s + " }"
}

// tell tells a node in a few signs.
func tell(n api.Node) string {
	s := "("
	for _, v := range n.Versions[:min(len(n.Versions), 5)] {
		s += tellDots([]api.Dot{v.Dot}) + tellDots(v.Past) + strconv.FormatBool(v.Dead) + short(v.Data) + " "
	}
	s += "of " + strconv.Itoa(len(n.Versions)) + ", "
	for _, kid := range n.Kids[:min(len(n.Kids), 5)] {
		s += short(kid.Name) + strconv.Quote(string(kid.Sum[:3])) + " "
	}
	return s + "of " + strconv.Itoa(len(n.Kids)) + ")"
}

// sameWords tells whether two nodes are the same, field by field.
func sameWords(m, n api.Node) bool {
	if len(m.Versions) != len(n.Versions) || len(m.Kids) != len(n.Kids) {
		return false
	}
	for i, v := range m.Versions {
		w := n.Versions[i]
		if v.Dot.Peer != w.Dot.Peer || v.Dot.Count != w.Dot.Count || !slices.Equal(v.Past, w.Past) || v.Dead != w.Dead || v.Data != w.Data {
			return false
		}
	}
	for i, kid := range m.Kids {
		if kid.Name != n.Kids[i].Name || kid.Sum != n.Kids[i].Sum {
			return false
		}
	}
	return true
}

// dot is a dot.
func dot(peer, count int) api.Dot {
	return api.Dot{Peer: peer, Count: count}
}

// list is a list of dots, told by peers and counts.
func list(numbers ...int) []api.Dot {
	var dots []api.Dot
	for i := 0; i+1 < len(numbers); i += 2 {
		dots = append(dots, dot(numbers[i], numbers[i+1]))
	}
	return dots
}

// live is a live version, its Past told by peers and counts.
func live(peer, count int, data string, past ...int) api.Version {
	return api.Version{Dot: dot(peer, count), Past: list(past...), Data: data}
}

// dead is one that is Dead.
func dead(peer, count int, past ...int) api.Version {
	return api.Version{Dot: dot(peer, count), Past: list(past...), Dead: true}
}

// versions are versions as a list.
func versions(l ...api.Version) []api.Version {
	return l
}

// everyPeer is a list of a dot of each peer, with one count.
func everyPeer(count int) []api.Dot {
	var dots []api.Dot
	for peer := range 64 {
		dots = append(dots, dot(peer, count))
	}
	return dots
}

// everyPeers are versions of all peers, each made by its peer.
func everyPeers(make func(peer int) api.Version) []api.Version {
	var l []api.Version
	for peer := range 64 {
		l = append(l, make(peer))
	}
	return l
}

// digest is a digest that a number tells, each of its bytes another one.
func digest(n int) api.Digest {
	var d api.Digest
	for i := range d {
		d[i] = byte(n + 7*i)
	}
	return d
}

// kids are kids of these names, each with a digest of its own.
func kids(names ...string) []api.Kid {
	var all []api.Kid
	for i, name := range names {
		all = append(all, api.Kid{Name: name, Sum: digest(i)})
	}
	return all
}

// manyNames are so many names, rising, as long as names may be.
func manyNames(count int) []string {
	var names []string
	for i := range count {
		number := strconv.Itoa(i)
		names = append(names, "k"+strings.Repeat("0", mostName-1-len(number))+number)
	}
	return names
}

// nodeOf is a node of versions and kids.
func nodeOf(l []api.Version, k []api.Kid) api.Node {
	return api.Node{Versions: l, Kids: k}
}

// dotWords tells by chapter 5's words why a dot may not be.
func dotWords(d api.Dot) api.Errno {
	switch {
	case d.Peer < 0 || d.Peer > lastPeer:
		return api.ErrPeer
	case d.Count < 1 || d.Count > top:
		return api.ErrCount
	}
	return api.OK
}

// vectorWords tells by chapter 5's words why a list is no vector.
func vectorWords(v []api.Dot) api.Errno {
	ahead := -1
	for _, d := range v {
		if err := dotWords(d); err != api.OK {
			return err
		}
		if d.Peer <= ahead {
			return api.ErrOrder
		}
		ahead = d.Peer
	}
	return api.OK
}

// hasWords tells by chapter 5's words whether a vector has a dot.
func hasWords(v []api.Dot, d api.Dot) bool {
	return slices.ContainsFunc(v, func(of api.Dot) bool { return of.Peer == d.Peer && of.Count >= d.Count })
}

// versionWords tells by chapter 7's words why a version may not be.
func versionWords(v api.Version) api.Errno {
	if err := dotWords(v.Dot); err != api.OK {
		return err
	}
	if err := vectorWords(v.Past); err != api.OK {
		return err
	}
	switch {
	case hasWords(v.Past, v.Dot):
		return api.ErrOrder
	case len(v.Data) > mostData:
		return api.ErrSize
	case v.Dead && v.Data != "":
		return api.ErrForm
	}
	return api.OK
}

// leafWords tells by chapter 7's words why a leaf may not be.
func leafWords(l []api.Version) api.Errno {
	if len(l) > 64 {
		return api.ErrSize
	}
	ahead := -1
	for _, v := range l {
		if err := versionWords(v); err != api.OK {
			return err
		}
		if v.Dot.Peer <= ahead {
			return api.ErrOrder
		}
		ahead = v.Dot.Peer
	}
	for _, v := range l {
		for _, w := range l {
			if hasWords(v.Past, w.Dot) {
				return api.ErrForm
			}
		}
	}
	return api.OK
}

// nameWords tells by chapter 4's words whether a text is a name.
func nameWords(s string) bool {
	return s != "" && s != "." && s != ".." && len(s) <= mostName && strings.Trim(s, signs) == ""
}

// kidsWords tells by the chapter's words what is wrong of kids.
func kidsWords(k []api.Kid) api.Errno {
	if len(k) > mostKids {
		return api.ErrSize
	}
	for i := range k {
		if !nameWords(k[i].Name) {
			return api.ErrPath
		}
		if i > 0 && strings.Compare(k[i-1].Name, k[i].Name) >= 0 {
			return api.ErrOrder
		}
	}
	return api.OK
}

// checkWords tells by the chapter's words why a node may not be.
func checkWords(n api.Node) api.Errno {
	if err := leafWords(n.Versions); err != api.OK {
		return err
	}
	return kidsWords(n.Kids)
}

// part is a number, a text, a flag or a digest of a node's bytes.
type part struct {
	what string
	s    string // its bytes
	most int    // what the number, or the text's length, may be at most
}

// number, text, flag and sum are parts.
func number(n, most int) part {
	return part{"number", string(binary.AppendUvarint(nil, uint64(n))), most}
}

func text(s string, most int) part {
	return part{"text", number(len(s), most).s + s, most}
}

func flag(is bool) part {
	if is {
		return part{"flag", "\x01", 1}
	}
	return part{"flag", "\x00", 1}
}

func sum(d api.Digest) part {
	return part{"digest", string(d[:]), 0}
}

// dotsParts are by chapter 11's words the parts of a vector's bytes.
func dotsParts(v []api.Dot) []part {
	parts := []part{number(len(v), 64)}
	for _, d := range v {
		parts = append(parts, number(d.Peer, 63), number(d.Count, top))
	}
	return parts
}

// leafParts are those of a leaf's.
func leafParts(l []api.Version) []part {
	parts := []part{number(len(l), 64)}
	for _, v := range l {
		parts = append(parts, number(v.Dot.Peer, 63), number(v.Dot.Count, top))
		parts = append(parts, dotsParts(v.Past)...)
		parts = append(parts, flag(v.Dead), text(v.Data, mostData))
	}
	return parts
}

// kidsParts are by the chapter's words those of kids.
func kidsParts(k []api.Kid) []part {
	parts := []part{number(len(k), mostKids)}
	for _, kid := range k {
		parts = append(parts, text(kid.Name, mostName), sum(kid.Sum))
	}
	return parts
}

// partsOf are those of a node. A node that may not be has parts, too, if only its numbers are none below 0.
func partsOf(n api.Node) []part {
	return append(leafParts(n.Versions), kidsParts(n.Kids)...)
}

// together are parts, one behind the other.
func together(parts []part) string {
	var s strings.Builder
	for _, p := range parts {
		s.WriteString(p.s)
	}
	return s.String()
}

// bytesWords are by 14.1's words a node's bytes, or what is wrong.
func bytesWords(n api.Node) (string, api.Errno) {
	if err := checkWords(n); err != api.OK {
		return "", err
	}
	return together(partsOf(n)), api.OK
}

// sumWords is by 14.1's words a node's digest, by the library's SHA-256.
func sumWords(n api.Node) api.Digest {
	s, err := bytesWords(n)
	if err != api.OK {
		return api.Digest{}
	}
	return sha256.Sum256([]byte(s))
}

// seenWords is by 14.3's words a node without the versions that are Dead.
func seenWords(n api.Node) api.Node {
	seen := api.Node{Kids: n.Kids}
	for _, v := range n.Versions {
		if !v.Dead {
			seen.Versions = append(seen.Versions, v)
		}
	}
	return seen
}

// reading is a Reader by chapter 10's words: what is left, and what is wrong.
type reading struct {
	left string
	err  api.Errno
}

// fail keeps what is wrong first.
func (m *reading) fail(e api.Errno) {
	if m.err == api.OK {
		m.err = e
	}
}

// cut takes so many bytes behind so many others, of which nothing is told.
func (m *reading) cut(ahead, size int, err api.Errno) string {
	if err == api.OK && ahead+size > len(m.left) {
		err = api.ErrShort
	}
	m.fail(err)
	if m.err != api.OK {
		return ""
	}
	s := m.left[ahead : ahead+size]
	m.left = m.left[ahead+size:]
	return s
}

// number takes a number, at most one.
func (m *reading) number(most int) int {
	n, size, err := numberWords(m.left, most)
	m.cut(size, 0, err)
	if m.err != api.OK {
		return 0
	}
	return n
}

// text takes a text of so many bytes at most.
func (m *reading) text(most int) string {
	n, size, err := numberWords(m.left, most)
	return m.cut(size, n, err)
}

// flag takes whether something is so.
func (m *reading) flag() bool {
	err := api.OK
	if m.left != "" && m.left[0] > 1 {
		err = api.ErrForm
	}
	return m.cut(0, 1, err) == "\x01"
}

// digest takes 32 bytes.
func (m *reading) digest() api.Digest {
	var d api.Digest
	copy(d[:], m.cut(0, 32, api.OK))
	return d
}

// numberWords is by 1.2's words the number that a text begins with, and how many bytes it has, if it is at most one.
func numberWords(s string, most int) (int, int, api.Errno) {
	last := slices.IndexFunc([]byte(s[:min(len(s), 5)]), func(b byte) bool { return b < 128 })
	switch {
	case last < 0 && len(s) < 5:
		return 0, 0, api.ErrShort
	case last < 0:
		return 0, 0, api.ErrSize
	case last > 0 && s[last] == 0:
		return 0, 0, api.ErrForm
	}
	n, _ := binary.Uvarint([]byte(s[:last+1]))
	if n > uint64(most) {
		return 0, 0, api.ErrSize
	}
	return int(n), last + 1, api.OK
}

// vector takes a vector by 11.2's words.
func (m *reading) vector() []api.Dot {
	var v []api.Dot
	for n := m.number(64); len(v) < n && m.err == api.OK; {
		peer := m.number(63)
		v = append(v, dot(peer, m.number(top)))
	}
	m.fail(vectorWords(v))
	return v
}

// leaf takes a leaf by 11.2's words.
func (m *reading) leaf() []api.Version {
	var l []api.Version
	for n := m.number(64); len(l) < n && m.err == api.OK; {
		var v api.Version
		v.Dot.Peer = m.number(63)
		v.Dot.Count = m.number(top)
		v.Past = m.vector()
		v.Dead = m.flag()
		v.Data = m.text(mostData)
		l = append(l, v)
	}
	m.fail(leafWords(l))
	return l
}

// readWords is by 14.2's words the node that bytes are, or what is wrong first.
func readWords(s string) (api.Node, api.Errno) {
	m := &reading{left: s}
	n := api.Node{Versions: m.leaf()}
	for count := m.number(mostKids); len(n.Kids) < count && m.err == api.OK; {
		name := m.text(mostName)
		n.Kids = append(n.Kids, api.Kid{Name: name, Sum: m.digest()})
	}
	if m.left != "" {
		m.fail(api.ErrMore)
	}
	m.fail(checkWords(n))
	if m.err != api.OK {
		return api.Node{}, m.err
	}
	return n, api.OK
}

// goodLeaves are leaves of each kind.
func goodLeaves() [][]api.Version {
	full := func(count int) func(int) api.Version {
		return func(peer int) api.Version {
			v := api.Version{Dot: dot(peer, count+1), Past: everyPeer(count), Data: strings.Repeat("d", peer%49)}
			v.Dead = v.Data == ""
			return v
		}
	}
	return [][]api.Version{
		nil, {}, versions(live(0, 1, "")), versions(live(0, 1, "x")), versions(dead(0, 1)), versions(live(1, 3, "hi", 0, 1)), versions(live(lastPeer, top, strings.Repeat("\xff", mostData))), versions(dead(lastPeer, top, lastPeer, top-1)), versions(live(0, 128, "\x80\x01", 0, 127)),
		versions(live(0, 2, "y", 0, 1), live(1, 1, "o", 0, 1)), versions(live(0, 1, "x"), dead(lastPeer, 1)), versions(dead(0, 1), dead(1, 1)), versions(live(3, 1, "a", 0, 9, 5, 1), dead(5, 2, 0, 7, 9, 9), live(8, 4, "c", 5, 1, 8, 3)),
		everyPeers(func(peer int) api.Version { return live(peer, 1, "x") }), everyPeers(func(peer int) api.Version { return dead(peer, top) }), everyPeers(full(1)), everyPeers(full(top - 1)),
	}
}

// brokenLeaf are versions that are no leaf, and why.
type brokenLeaf struct {
	versions []api.Version
	err      api.Errno
}

// brokenLeaves are lists that are no leaves, by each of CheckLeaf's errors.
func brokenLeaves() []brokenLeaf {
	var all []brokenLeaf
	add := func(err api.Errno, lists ...[]api.Version) {
		for _, l := range lists {
			all = append(all, brokenLeaf{l, err})
		}
	}
	one := func(peer int) api.Version { return live(peer, 1, "x") }
	x, y := one(0), one(1)
	big := strings.Repeat("d", mostData+1)
	deadWith := x
	deadWith.Dead = true
	add(api.ErrSize, append(everyPeers(one), one(lastPeer)), make([]api.Version, 65), make([]api.Version, 5000), versions(live(0, 1, big)), versions(x, live(1, 1, big, 0, 1)), versions(live(0, 1, strings.Repeat("d", api.MaxText+1))))
	add(api.ErrPeer, versions(one(-1)), versions(one(64)), versions(x, one(64)), versions(one(math.MaxInt)), versions(one(math.MinInt)), versions(live(5, 1, "", 64, 1)), versions(live(5, 1, "", 0, 1, -1, 1)))
	add(api.ErrCount, make([]api.Version, 1), make([]api.Version, 64), versions(live(0, 0, "x")), versions(live(0, top+1, "x")), versions(live(0, -1, "x")), versions(x, live(1, 0, "")), versions(live(5, 1, "", 0, 0)), versions(live(5, 1, "", 0, top+1)))
	add(api.ErrOrder, versions(y, x), versions(x, x), versions(x, one(2), y), versions(live(0, 1, "", 0, 1)), versions(live(5, 1, "", 1, 1, 0, 1)), versions(live(5, 1, "", 1, 1, 1, 1)), append(everyPeers(one)[:63], one(62)))
	add(api.ErrForm, versions(deadWith), versions(x, live(1, 1, "o", 0, 1)), versions(live(0, 1, "", 1, 1), y), versions(dead(0, 1), dead(1, 1, 0, 1)), append(everyPeers(one)[:63], live(lastPeer, 1, "", 0, 1)))
	return all
}

// goodNames are names, rising.
func goodNames() []string {
	names := []string{"-", "...", "....", ".a", "_", "0", "9", "a", "a.b", "a..", "z", "abcdefghijkl", "-----------.", "............", "zzzzzzzzzzzz", "0_0-0.0", "--", "-a", "a-", "a0", "a_", "aa"}
	slices.Sort(names)
	return names
}

// brokenNames are texts that are no names: empty ones, too long ones, names that may not be, and each kind of sign that may not stand in one.
func brokenNames() []string {
	return []string{"", ".", "..", "/", "a/", "/a", "a/b", "../a", "A", "aZ", "a b", " ", "a\x00", "\x00", "\x7f", "\x80", "a\xff", "é", "a+", "a,", "a:", "a;", "a@", "a[", "a^", "a`", "a{", "a~", "\n", "abcdefghijklm", "abcdefghijkL", ".............", strings.Repeat("a", 51), strings.Repeat("a", 52), strings.Repeat("a", api.MaxText+1)}
}

// goodKids are lists of kids that may be.
func goodKids() [][]api.Kid {
	all := [][]api.Kid{nil, {}, {{Name: "a"}}, {{Name: "a"}, {Name: "b"}}, kids(goodNames()...), kids(manyNames(mostKids)...), kids(manyNames(mostKids - 1)...), kids(manyNames(127)...)}
	for _, name := range goodNames() {
		all = append(all, kids(name))
	}
	var every []string
	for _, s := range signs {
		if s != '.' {
			every = append(every, string(s))
		}
	}
	return append(all, kids(every...), kids("a", "a-", "a.", "a0", "a_", "aa", "b"), kids("-", "0", "_", "a"))
}

// brokenKid are kids that may not be, and why.
type brokenKid struct {
	kids []api.Kid
	err  api.Errno
}

// brokenKids are lists of kids that may not be: each wrong name as the first, one within, and the last; names out of order; and too many.
func brokenKids() []brokenKid {
	var all []brokenKid
	add := func(err api.Errno, lists ...[]string) {
		for _, names := range lists {
			all = append(all, brokenKid{kids(names...), err})
		}
	}
	many := manyNames(mostKids)
	put := func(at int, name string) []string {
		names := slices.Clone(many)
		names[at] = name
		return names
	}
	for _, name := range brokenNames() {
		add(api.ErrPath, []string{name}, []string{name, "a", "b"}, []string{"a", name, "b"}, []string{"a", "b", name}, put(0, name), put(77, name), put(mostKids-1, name), []string{"a", "b", name, "a"}, []string{"a", name, "a"}, []string{name, name})
	}
	for at := range mostKids - 1 {
		add(api.ErrOrder, put(at+1, many[at]), put(at, many[mostKids-1]), put(at+1, "k"), put(at+1, "0"))
	}
	add(api.ErrOrder, []string{"a", "a"}, []string{"b", "a"}, []string{"a", "b", "b"}, []string{"a", "c", "b"}, []string{"aa", "a"}, []string{"b", "aa"}, []string{"a-", "a"}, []string{"a", "_"}, []string{"_", "0"}, []string{"0", "..."}, []string{"...", "-"}, []string{"a0", "a."}, []string{"a", "b", "a", "."}, []string{"b", "a", ""}, []string{"b", "b", "A"})
	add(api.ErrSize, manyNames(mostKids+1), manyNames(1000), make([]string, mostKids+1), append(manyNames(mostKids), "/"), append([]string{"A"}, many...), append([]string{"z"}, many...), append(many, "a"), make([]string, 100000))
	return all
}

// goodNodes are nodes that may be: each leaf with some kids, all kids with some leaf.
func goodNodes() []api.Node {
	var all []api.Node
	k := goodKids()
	for i, l := range goodLeaves() {
		all = append(all, nodeOf(l, nil), nodeOf(l, []api.Kid{}), nodeOf(l, k[2]), nodeOf(l, k[3]), nodeOf(l, k[4+i%5]))
	}
	l := goodLeaves()
	for i, of := range k {
		all = append(all, nodeOf(nil, of), nodeOf(l[3], of), nodeOf(l[i%13], of))
	}
	return all
}

// broken is a node that may not be, and what is wrong of it.
type broken struct {
	n   api.Node
	err api.Errno
}

// brokenNodes are nodes that may not be: each wrong list with right ones.
func brokenNodes() []broken {
	var all []broken
	k := goodKids()
	for i, c := range brokenLeaves() {
		all = append(all, broken{nodeOf(c.versions, nil), c.err}, broken{nodeOf(c.versions, k[i%len(k)]), c.err})
	}
	l := goodLeaves()
	for i, c := range brokenKids() {
		all = append(all, broken{nodeOf(nil, c.kids), c.err}, broken{nodeOf(l[i%13], c.kids), c.err})
	}
	return all
}

// drawnVector is a vector that is drawn, each peer of which has at most high.
func drawnVector(draw *rand.Rand, high int) []api.Dot {
	var v []api.Dot
	every := 1 + draw.Intn(30)
	for peer := range 64 {
		if draw.Intn(every) == 0 {
			v = append(v, dot(peer, 1+draw.Intn(high)))
		}
	}
	return v
}

// drawnLeaf is a leaf that is drawn. None covers another one, as the counts of Dots are above those of Pasts.
func drawnLeaf(draw *rand.Rand) []api.Version {
	if draw.Intn(4) == 0 {
		return nil
	}
	high := 1 + draw.Intn(top/2)>>draw.Intn(20)
	var l []api.Version
	for _, d := range drawnVector(draw, high) {
		v := api.Version{Dot: dot(d.Peer, d.Count+high), Past: drawnVector(draw, high), Dead: draw.Intn(3) == 0}
		if !v.Dead {
			data := make([]byte, draw.Intn(mostData+1))
			draw.Read(data)
			v.Data = string(data)
		}
		l = append(l, v)
	}
	return l
}

// drawnName is a name that is drawn.
func drawnName(draw *rand.Rand) string {
	for {
		name := ""
		for range 1 + draw.Intn(1+draw.Intn(mostName)) {
			name += string(signs[draw.Intn(len(signs))])
		}
		if nameWords(name) {
			return name
		}
	}
}

// drawnNode is a node that is drawn, and may be.
func drawnNode(draw *rand.Rand) api.Node {
	names := make([]string, draw.Intn(1+mostKids>>draw.Intn(8)))
	for i := range names {
		names[i] = drawnName(draw)
	}
	slices.Sort(names)
	n := nodeOf(drawnLeaf(draw), kids(slices.Compact(names)...))
	for i := range n.Kids {
		draw.Read(n.Kids[i].Sum[:])
	}
	return n
}

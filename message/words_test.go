package message

import (
	"encoding/binary"
	"math"
	"math/rand"
	"slices"
	"strconv"
	"strings"

	"hearsay/api"
)

// The limits, and the kinds, as numbers.
const (
	lastPeer = 63
	top      = 1048576 // of a count, and of a session's number
	mostPath = 51
	mostText = 65536
	longPath = "abcdefghijkl/abcdefghijkl/abcdefghijkl/abcdefghijkl"

	ask, head, want, body, gone, bye = 1, 2, 3, 4, 5, 6
)

// tell tells a message in a few signs.
func tell(m api.Message) string {
	s := "{"
	for _, n := range []int{m.Kind, m.From, m.To, m.Sid} {
		s += strconv.Itoa(n) + " "
	}
	s += strconv.FormatBool(m.Turn) + " " + strconv.Quote(short(m.Path)) + " " + strconv.Quote(short(string(m.Root[:]))) + tellDots(m.Ctx) + " rows"
	for _, row := range m.Rows[:min(len(m.Rows), 4)] {
		s += tellDots(row)
	}
	return s + " of " + strconv.Itoa(len(m.Rows)) + " " + strconv.Quote(short(m.Text)) + " of " + strconv.Itoa(len(m.Text)) + "}"
}

// tellDots tells dots, or the first ones, in a few signs.
func tellDots(dots []api.Dot) string {
	s := "{"
	for _, d := range dots[:min(len(dots), 5)] {
		s += " " + strconv.Itoa(d.Peer) + ":" + strconv.Itoa(d.Count)
	}
	return s + " }"
}

// short is a text, or its beginning.
func short(s string) string {
	return s[:min(len(s), 60)]
}

// dot is a dot.
func dot(peer, count int) api.Dot {
	return api.Dot{Peer: peer, Count: count}
}

// list is a list of dots, told by peers and counts.
func list(numbers ...int) []api.Dot {
	var dots []api.Dot
	for i := 0; i+1 < len(numbers); i += 2 {
		dots = append(dots, dot(numbers[i], numbers[i+1]))
	}
	return dots
}

// everyPeer is a list of a dot of each peer, with one count.
func everyPeer(count int) []api.Dot {
	var dots []api.Dot
	for peer := range 64 {
		dots = append(dots, dot(peer, count))
	}
	return dots
}

// digest is a digest whose bytes rise from one on.
func digest(from byte) api.Digest {
	var d api.Digest
	for i := range d {
		d[i] = from + byte(i)
	}
	return d
}

// sameWords tells by 12.1's words whether two messages are the same in all fields.
func sameWords(a, b api.Message) bool {
	if a.Kind != b.Kind || a.From != b.From || a.To != b.To || a.Sid != b.Sid || a.Turn != b.Turn || a.Path != b.Path || a.Root != b.Root || a.Text != b.Text {
		return false
	}
	if !sameDots(a.Ctx, b.Ctx) || len(a.Rows) != len(b.Rows) {
		return false
	}
	for i := range a.Rows {
		if !sameDots(a.Rows[i], b.Rows[i]) {
			return false
		}
	}
	return true
}

// sameDots tells whether two lists are the same, dot by dot.
func sameDots(v, w []api.Dot) bool {
	if len(v) != len(w) {
		return false
	}
	for i := range v {
		if v[i] != w[i] {
			return false
		}
	}
	return true
}

// isNone tells whether a message is nothing at all.
func isNone(m api.Message) bool {
	return sameWords(m, api.Message{})
}

// vectorWords tells by chapter 5's words why a list is no vector.
func vectorWords(v []api.Dot) api.Errno {
	ahead := -1
	for _, d := range v {
		switch {
		case d.Peer < 0 || d.Peer > lastPeer:
			return api.ErrPeer
		case d.Count < 1 || d.Count > top:
			return api.ErrCount
		case d.Peer <= ahead:
			return api.ErrOrder
		}
		ahead = d.Peer
	}
	return api.OK
}

// pathWords tells by chapter 4's words why a text is no path; the root is right here.
func pathWords(s string) api.Errno {
	if s == "" {
		return api.OK
	}
	if len(s) > mostPath {
		return api.ErrSize
	}
	names := strings.Split(s, "/")
	for _, name := range names {
		odd := strings.Trim(name, "abcdefghijklmnopqrstuvwxyz0123456789._-") != ""
		if name == "" || name == "." || name == ".." || len(name) > 12 || odd {
			return api.ErrPath
		}
	}
	if len(names) > 4 {
		return api.ErrPath
	}
	return api.OK
}

// ownWords are by the chapter's words the fields that are a kind's own, in their order.
func ownWords(kind int) []string {
	switch kind {
	case head:
		return []string{"Root", "Ctx", "Rows"}
	case want:
		return []string{"Root", "Path"}
	case body:
		return []string{"Path", "Text"}
	case bye:
		return []string{"Turn"}
	}
	return nil
}

// isZero tells whether a field of a message, told by its name, is its zero value.
func isZero(m api.Message, field string) bool {
	switch field {
	case "Turn":
		return !m.Turn
	case "Path":
		return m.Path == ""
	case "Root":
		return m.Root == api.Digest{}
	case "Ctx":
		return len(m.Ctx) == 0
	case "Rows":
		return len(m.Rows) == 0
	}
	return m.Text == ""
}

// checkWords tells by the chapter's words why a message may not be.
func checkWords(m api.Message) api.Errno {
	switch {
	case !slices.Contains([]int{ask, head, want, body, gone, bye}, m.Kind):
		return api.ErrKind
	case m.From < 0 || m.From > lastPeer || m.To < 0 || m.To > lastPeer || m.From == m.To:
		return api.ErrPeer
	case m.Sid < 1 || m.Sid > top:
		return api.ErrCount
	}
	for _, field := range []string{"Turn", "Path", "Root", "Ctx", "Rows", "Text"} {
		if !slices.Contains(ownWords(m.Kind), field) && !isZero(m, field) {
			return api.ErrForm
		}
	}
	errs := []api.Errno{pathWords(m.Path), vectorWords(m.Ctx)}
	if len(m.Rows) > 64 {
		errs = append(errs, api.ErrSize)
	}
	for _, row := range m.Rows {
		errs = append(errs, vectorWords(row))
	}
	if len(m.Text) > mostText {
		errs = append(errs, api.ErrSize)
	}
	for _, err := range errs {
		if err != api.OK {
			return err
		}
	}
	return api.OK
}

// part is a number, a text, a digest or a flag of a message's bytes.
type part struct {
	what string // number, text, digest, flag
	s    string // its bytes
	most int    // what the number, or the text's length, may be at most
}

// number, text and flag are parts.
func number(n, most int) part {
	return part{"number", string(binary.AppendUvarint(nil, uint64(n))), most}
}

func text(s string, most int) part {
	return part{"text", number(len(s), most).s + s, most}
}

func flag(is bool) part {
	if is {
		return part{"flag", "\x01", 1}
	}
	return part{"flag", "\x00", 1}
}

// vectorParts are by the words the parts of a vector's bytes.
func vectorParts(v []api.Dot) []part {
	parts := []part{number(len(v), 64)}
	for _, d := range v {
		parts = append(parts, number(d.Peer, 63), number(d.Count, top))
	}
	return parts
}

// partsOf are by the words the parts of a message's bytes. A message that may not be has parts, too, if only its numbers are none below 0.
func partsOf(m api.Message) []part {
	parts := []part{number(m.Kind, api.MaxNumber), number(m.From, 63), number(m.To, 63), number(m.Sid, top)}
	for _, field := range ownWords(m.Kind) {
		switch field {
		case "Root":
			parts = append(parts, part{"digest", string(m.Root[:]), 0})
		case "Ctx":
			parts = append(parts, vectorParts(m.Ctx)...)
		case "Rows":
			parts = append(parts, number(len(m.Rows), 64))
			for _, row := range m.Rows {
				parts = append(parts, vectorParts(row)...)
			}
		case "Path":
			parts = append(parts, text(m.Path, mostPath))
		case "Text":
			parts = append(parts, text(m.Text, mostText))
		case "Turn":
			parts = append(parts, flag(m.Turn))
		}
	}
	return parts
}

// together are parts, one behind the other.
func together(parts []part) string {
	var s strings.Builder
	for _, p := range parts {
		s.WriteString(p.s)
	}
	return s.String()
}

// reading is a Reader by chapter 10's words: what is left, and what is wrong.
type reading struct {
	left string
	err  api.Errno
}

// fail keeps what is wrong first.
func (r *reading) fail(e api.Errno) {
	if r.err == api.OK {
		r.err = e
	}
}

// cut takes so many bytes, if there are as many.
func (r *reading) cut(n int) string {
	if n > len(r.left) {
		r.fail(api.ErrShort)
	}
	if r.err != api.OK {
		return ""
	}
	s := r.left[:n]
	r.left = r.left[n:]
	return s
}

// number takes a number, at most one.
func (r *reading) number(most int) int {
	last := slices.IndexFunc([]byte(r.left[:min(len(r.left), 5)]), func(b byte) bool { return b < 128 })
	switch {
	case last < 0 && len(r.left) < 5:
		r.fail(api.ErrShort)
	case last < 0:
		r.fail(api.ErrSize)
	case last > 0 && r.left[last] == 0:
		r.fail(api.ErrForm)
	}
	if r.err != api.OK {
		return 0
	}
	n, _ := binary.Uvarint([]byte(r.left[:last+1]))
	if n > uint64(most) {
		r.fail(api.ErrSize)
		return 0
	}
	r.cut(last + 1)
	return int(n)
}

// text takes a text of so many bytes at most.
func (r *reading) text(most int) string {
	return r.cut(r.number(most))
}

// flag takes whether something is so.
func (r *reading) flag() bool {
	s := r.cut(1)
	if s > "\x01" {
		r.fail(api.ErrForm)
	}
	return s == "\x01"
}

// vector takes a vector.
func (r *reading) vector() []api.Dot {
	var v []api.Dot
	for n := r.number(64); len(v) < n && r.err == api.OK; {
		peer := r.number(63)
		v = append(v, dot(peer, r.number(top)))
	}
	if r.err == api.OK {
		r.err = vectorWords(v)
	}
	return v
}

// readWords is by 12.2's words the message that bytes are.
func readWords(s string) (api.Message, api.Errno) {
	r := &reading{left: s}
	var m api.Message
	m.Kind = r.number(api.MaxNumber)
	if m.Kind < ask || m.Kind > bye {
		r.fail(api.ErrKind)
	}
	m.From = r.number(63)
	m.To = r.number(63)
	m.Sid = r.number(top)
	for _, field := range ownWords(m.Kind) {
		switch field {
		case "Root":
			copy(m.Root[:], r.cut(32))
		case "Ctx":
			m.Ctx = r.vector()
		case "Rows":
			for n := r.number(64); len(m.Rows) < n && r.err == api.OK; {
				m.Rows = append(m.Rows, r.vector())
			}
		case "Path":
			m.Path = r.text(mostPath)
		case "Text":
			m.Text = r.text(mostText)
		case "Turn":
			m.Turn = r.flag()
		}
	}
	if r.left != "" {
		r.fail(api.ErrMore)
	}
	r.fail(checkWords(m))
	if r.err != api.OK {
		return api.Message{}, r.err
	}
	return m, api.OK
}

// goodVectors are vectors: none, one dot, each edge, and all peers.
func goodVectors() [][]api.Dot {
	return [][]api.Dot{nil, {}, list(0, 1), list(0, 2, 3, 1), list(lastPeer, top), list(0, 127, 1, 128), list(5, 16383, 6, 16384), list(0, 1, lastPeer, top), everyPeer(1), everyPeer(top), everyPeer(300)[1:]}
}

// goodRows are rows that may be.
func goodRows() [][][]api.Dot {
	all := [][][]api.Dot{nil, {}, goodVectors(), make([][]api.Dot, 1), make([][]api.Dot, 64), slices.Repeat([][]api.Dot{list(1, 2), nil}, 32), slices.Repeat([][]api.Dot{everyPeer(1)}, 64)}
	for _, v := range goodVectors() {
		all = append(all, [][]api.Dot{v}, [][]api.Dot{nil, v}, [][]api.Dot{v, list(1, 1)})
	}
	return all
}

// goodPaths are paths, and the root.
func goodPaths() []string {
	return []string{"", "a", "a/b.c", "-", "..a", "0_9", "a/b/c/d", longPath}
}

// goodTexts are texts of each size.
func goodTexts() []string {
	return []string{"", "x", "xy", "\x00", "\xff\xfe", strings.Repeat("t", 127), strings.Repeat("t", 128), strings.Repeat("\x00", mostText-1), strings.Repeat("t", mostText)}
}

// ends are pairs of peers, and sids, that may be.
func ends() [][3]int {
	return [][3]int{{1, 2, 3}, {0, 1, 1}, {1, 0, top}, {0, lastPeer, 127}, {lastPeer, 0, 128}, {lastPeer - 1, lastPeer, top - 1}}
}

// of is a message of a kind, with no fields of its own.
func of(kind int) api.Message {
	return api.Message{Kind: kind, From: 1, To: 2, Sid: 3}
}

// goodMessages are messages of each kind.
func goodMessages() []api.Message {
	var all []api.Message
	for kind := ask; kind <= bye; kind++ {
		for _, e := range ends() {
			all = append(all, api.Message{Kind: kind, From: e[0], To: e[1], Sid: e[2]}, api.Message{Kind: kind, From: e[0], To: e[1], Sid: e[2], Ctx: []api.Dot{}, Rows: [][]api.Dot{}})
		}
	}
	for _, root := range []api.Digest{{}, {0: 1}, {31: 1}, digest(0), digest(0xf0)} {
		for _, v := range goodVectors() {
			m := of(head)
			m.Root, m.Ctx, m.Rows = root, v, [][]api.Dot{v}
			all = append(all, m)
		}
		for _, path := range goodPaths() {
			m := of(want)
			m.Root, m.Path = root, path
			all = append(all, m)
		}
	}
	for _, rows := range goodRows() {
		m := of(head)
		m.Rows = rows
		all = append(all, m)
	}
	for _, path := range goodPaths() {
		for _, s := range goodTexts() {
			m := of(body)
			m.Path, m.Text = path, s
			all = append(all, m)
		}
	}
	m := of(bye)
	m.Turn = true
	return append(all, m)
}

// broken is a message that may not be, and why.
type broken struct {
	m   api.Message
	err api.Errno
}

// badVector is a list that is no vector, and why.
type badVector struct {
	v   []api.Dot
	err api.Errno
}

// badVectors are lists that are no vectors.
func badVectors() []badVector {
	return []badVector{
		{list(-1, 1), api.ErrPeer}, {list(64, 1), api.ErrPeer}, {list(math.MinInt, 1), api.ErrPeer}, {list(math.MaxInt, 1), api.ErrPeer}, {list(0, 1, 64, 1), api.ErrPeer}, {append(everyPeer(1), dot(64, 1)), api.ErrPeer}, {list(64, 0), api.ErrPeer},
		{list(0, 0), api.ErrCount}, {list(0, -1), api.ErrCount}, {list(0, top+1), api.ErrCount}, {list(lastPeer, math.MaxInt), api.ErrCount}, {list(0, 1, 1, 0), api.ErrCount}, {list(1, 1, 0, 0), api.ErrCount},
		{list(0, 1, 0, 1), api.ErrOrder}, {list(0, 1, 0, 2), api.ErrOrder}, {list(1, 1, 0, 1), api.ErrOrder}, {append(everyPeer(1), dot(lastPeer, 1)), api.ErrOrder},
	}
}

// badPath is a text that is no path, and why.
type badPath struct {
	path string
	err  api.Errno
}

// badPaths are texts that are no paths.
func badPaths() []badPath {
	return []badPath{{"A", api.ErrPath}, {"/", api.ErrPath}, {"a/", api.ErrPath}, {"/a", api.ErrPath}, {"a//b", api.ErrPath}, {".", api.ErrPath}, {"a/..", api.ErrPath}, {"a b", api.ErrPath}, {"\x00", api.ErrPath}, {"\xff", api.ErrPath}, {"a/b/c/d/e", api.ErrPath}, {"abcdefghijklm", api.ErrPath}, {strings.Repeat("a", 51), api.ErrPath}, {strings.Repeat("a", 52), api.ErrSize}, {longPath + "m", api.ErrSize}, {longPath + "/", api.ErrSize}, {strings.Repeat("/", 1000), api.ErrSize}}
}

// setters set each a field that may be a kind's own, to what it may be, and tell which one.
func setters() []setter {
	return []setter{
		{"Turn", func(m *api.Message) { m.Turn = true }},
		{"Path", func(m *api.Message) { m.Path = "a" }},
		{"Root", func(m *api.Message) { m.Root[0] = 1 }},
		{"Root", func(m *api.Message) { m.Root[31] = 0x80 }},
		{"Ctx", func(m *api.Message) { m.Ctx = list(0, 1) }},
		{"Rows", func(m *api.Message) { m.Rows = [][]api.Dot{nil} }},
		{"Rows", func(m *api.Message) { m.Rows = [][]api.Dot{list(0, 1)} }},
		{"Text", func(m *api.Message) { m.Text = "\x00" }},
		// To what it may be nowhere: as a field that is not its own it is ErrForm all the same.
		{"Path", func(m *api.Message) { m.Path = "A" }},
		{"Path", func(m *api.Message) { m.Path = strings.Repeat("a", 52) }},
		{"Ctx", func(m *api.Message) { m.Ctx = list(64, 1) }},
		{"Rows", func(m *api.Message) { m.Rows = make([][]api.Dot, 65) }},
		{"Rows", func(m *api.Message) { m.Rows = [][]api.Dot{list(0, 0)} }},
		{"Text", func(m *api.Message) { m.Text = strings.Repeat("t", mostText+1) }},
	}
}

// setter sets a field.
type setter struct {
	field string
	set   func(m *api.Message)
}

// brokenEnds are messages whose Kind, From, To or Sid may not be, or that have a field that is not their own.
func brokenEnds() []broken {
	var all []broken
	for _, kind := range []int{0, 7, -1, 8, 256 + ask, math.MinInt, math.MaxInt, 1<<32 + 1} {
		all = append(all, broken{of(kind), api.ErrKind}, broken{api.Message{Kind: kind, From: 1, To: 1}, api.ErrKind}, broken{api.Message{Kind: kind, From: -1, To: 64, Sid: -1, Text: "x", Path: "A"}, api.ErrKind})
	}
	for kind := ask; kind <= bye; kind++ {
		for _, e := range [][3]int{{-1, 1, 1}, {1, -1, 1}, {64, 1, 1}, {1, 64, 1}, {0, 0, 1}, {5, 5, 5}, {63, 63, 1}, {-1, -1, 1}, {64, 64, 1}, {math.MinInt, 0, 1}, {0, math.MaxInt, 1}, {1 << 32, 1, 1}, {1, 1 << 32, 1}, {1, 1, 0}, {64, 0, top + 1}} {
			m := api.Message{Kind: kind, From: e[0], To: e[1], Sid: e[2]}
			odd := m
			odd.Turn, odd.Path, odd.Text = true, "A", "x"
			all = append(all, broken{m, api.ErrPeer}, broken{odd, api.ErrPeer})
		}
		for _, sid := range []int{0, -1, top + 1, math.MinInt, math.MaxInt, 1<<32 + 1} {
			m := of(kind)
			m.Sid = sid
			odd := m
			odd.Turn, odd.Path, odd.Text = true, "A", "x"
			all = append(all, broken{m, api.ErrCount}, broken{odd, api.ErrCount})
		}
		for _, s := range setters() {
			m := of(kind)
			s.set(&m)
			if !slices.Contains(ownWords(kind), s.field) {
				all = append(all, broken{m, api.ErrForm})
			}
		}
	}
	return all
}

// brokenFields are messages of which a field of their own may not be, alone, and with others behind it that may not be either.
func brokenFields() []broken {
	var all []broken
	long := strings.Repeat("t", mostText+1)
	for _, p := range badPaths() {
		m, n, o := of(want), of(body), of(body)
		m.Path, n.Path, o.Path, o.Text = p.path, p.path, p.path, long
		all = append(all, broken{m, p.err}, broken{n, p.err}, broken{o, p.err})
	}
	for _, path := range goodPaths() {
		m, n := of(body), of(body)
		m.Path, m.Text = path, long
		n.Path, n.Text = path, strings.Repeat("\x00", 2*mostText)
		all = append(all, broken{m, api.ErrSize}, broken{n, api.ErrSize})
	}
	for _, bad := range badVectors() {
		m, n, o := of(head), of(head), of(head)
		m.Ctx = bad.v
		n.Ctx, n.Rows = bad.v, make([][]api.Dot, 65)
		o.Ctx, o.Rows, o.Root = bad.v, [][]api.Dot{list(64, 1), list(0, 0), list(1, 1, 0, 1)}, digest(1)
		all = append(all, broken{m, bad.err}, broken{n, bad.err}, broken{o, bad.err})
		for at := range 3 {
			m := of(head)
			m.Ctx, m.Rows = list(0, 1), slices.Insert([][]api.Dot{list(0, 1), nil}, at, bad.v)
			all = append(all, broken{m, bad.err})
			for _, other := range badVectors()[at*5:][:5] {
				n := m
				n.Rows = append(slices.Clone(m.Rows), other.v)
				all = append(all, broken{n, bad.err})
			}
		}
		last := of(head)
		last.Rows = append(make([][]api.Dot, 63), bad.v)
		over := of(head)
		over.Rows = append([][]api.Dot{bad.v}, make([][]api.Dot, 64)...)
		all = append(all, broken{last, bad.err}, broken{over, api.ErrSize})
	}
	for _, size := range []int{65, 66, 1000} {
		m := of(head)
		m.Rows = make([][]api.Dot, size)
		all = append(all, broken{m, api.ErrSize})
	}
	return all
}

// brokenMessages are messages that may not be.
func brokenMessages() []broken {
	return append(brokenEnds(), brokenFields()...)
}

// drawnVector is a vector that is drawn.
func drawnVector(draw *rand.Rand) []api.Dot {
	var v []api.Dot
	for peer := draw.Intn(5); peer < 64 && draw.Intn(4) > 0; peer += 1 + draw.Intn(20) {
		v = append(v, dot(peer, 1+draw.Intn([]int{1, 3, 300, top}[draw.Intn(4)])))
	}
	return v
}

// drawnMessage is a message that is drawn.
func drawnMessage(draw *rand.Rand) api.Message {
	peers := draw.Perm([]int{3, 64}[draw.Intn(2)]) // often the first few alone, so that a bent one comes to be the other one
	m := api.Message{Kind: 1 + draw.Intn(6), From: peers[0], To: peers[1], Sid: 1 + draw.Intn([]int{2, 300, top}[draw.Intn(3)])}
	for _, field := range ownWords(m.Kind) {
		switch field {
		case "Root":
			draw.Read(m.Root[:])
		case "Ctx":
			m.Ctx = drawnVector(draw)
		case "Rows":
			for range draw.Intn(5) {
				m.Rows = append(m.Rows, drawnVector(draw))
			}
		case "Path":
			m.Path = goodPaths()[draw.Intn(len(goodPaths()))]
		case "Text":
			m.Text = strings.Repeat(string(rune(draw.Intn(200))), draw.Intn(200))
		case "Turn":
			m.Turn = draw.Intn(2) == 1
		}
	}
	return m
}

package frame

import (
	"encoding/binary"
	"hash/crc32"
	"math"
	"math/rand"
	"slices"
	"strconv"
	"strings"
	"testing"

	"hearsay/api"
	"hearsay/message"
)

// The limits, and the bytes of an Ask, a Body, and a digest of noughts.
const (
	mostFrame = 131072
	mostText  = 65536
	top       = 1048576 // of a count, and of a session's number
	longPath  = "abcdefghijkl/abcdefghijkl/abcdefghijkl/abcdefghijkl"
	askBytes  = "\x01\x01\x02\x03"
	bodyAhead = "\x04\x00\x01\x01" // up to its texts
	none      = "\x00\x00\x00\x00\x00\x00\x00\x00\x00\x00\x00\x00\x00\x00\x00\x00\x00\x00\x00\x00\x00\x00\x00\x00\x00\x00\x00\x00\x00\x00\x00\x00"
	headAhead = "\x02\x00\x01\x01" + none // up to its lists
)

// short is a text, or its beginning, and how many bytes it has.
func short(s string) string {
	if len(s) <= 80 {
		return strconv.Quote(s)
	}
	return strconv.Quote(s[:80]) + " of " + strconv.Itoa(len(s))
}

// tell tells a message in a few signs.
func tell(m api.Message) string {
	s := "{"
	for _, n := range []int{m.Kind, m.From, m.To, m.Sid} {
		s += strconv.Itoa(n) + " "
	}
	s += strconv.FormatBool(m.Turn) + " " + short(m.Path) + " " + short(string(m.Root[:])) + tellDots(m.Ctx) + " rows"
	for _, row := range m.Rows[:min(len(m.Rows), 4)] {
		s += tellDots(row)
	}
	return s + " of " + strconv.Itoa(len(m.Rows)) + " " + short(m.Text) + "}"
}

// tellDots tells dots, or the first ones, in a few signs.
func tellDots(dots []api.Dot) string {
	s := "{"
	for _, d := range dots[:min(len(dots), 5)] {
		s += " " + strconv.Itoa(d.Peer) + ":" + strconv.Itoa(d.Count)
	}
	return s + " }"
}

// list is a list of dots, told by peers and counts.
func list(numbers ...int) []api.Dot {
	var dots []api.Dot
	for i := 0; i+1 < len(numbers); i += 2 {
		dots = append(dots, api.Dot{Peer: numbers[i], Count: numbers[i+1]})
	}
	return dots
}

// everyPeer is a list of a dot of each peer, with one count.
func everyPeer(count int) []api.Dot {
	var dots []api.Dot
	for peer := range 64 {
		dots = append(dots, api.Dot{Peer: peer, Count: count})
	}
	return dots
}

// digest is a digest whose bytes rise from one on.
func digest(from byte) api.Digest {
	var d api.Digest
	for i := range d {
		d[i] = from + byte(i)
	}
	return d
}

// sameWords tells whether two messages are the same in all fields, lists element by element.
func sameWords(a, b api.Message) bool {
	ends := a.Kind == b.Kind && a.From == b.From && a.To == b.To && a.Sid == b.Sid
	fields := a.Turn == b.Turn && a.Path == b.Path && a.Root == b.Root && a.Text == b.Text
	return ends && fields && slices.Equal(a.Ctx, b.Ctx) && slices.EqualFunc(a.Rows, b.Rows, slices.Equal)
}

// isNone tells whether a message is nothing at all.
func isNone(m api.Message) bool {
	return sameWords(m, api.Message{})
}

// sealed is by chapter 2's words a text, and its sum behind it: the library's CRC-32.
func sealed(s string) string {
	return s + string(binary.LittleEndian.AppendUint32(nil, crc32.ChecksumIEEE([]byte(s))))
}

// numberOf are a number's bytes.
func numberOf(n int) string {
	return string(binary.AppendUvarint(nil, uint64(n)))
}

// framed is a text of any bytes as a frame's inside: all of the frame is right, but for what is inside.
func framed(inside string) string {
	return sealed("hs\x01" + numberOf(len(inside)) + inside)
}

// sealWords is by 13.1's words a message's frame.
func sealWords(m api.Message) (string, api.Errno) {
	s, err := message.Bytes(m)
	if err != api.OK {
		return "", err
	}
	return framed(s), api.OK
}

// textWords is by chapter 10's words the text ahead of at most MaxFrame bytes, and what stands behind it.
func textWords(s string) (text, behind string, err api.Errno) {
	last := slices.IndexFunc([]byte(s[:min(len(s), 5)]), func(b byte) bool { return b < 128 })
	switch {
	case last < 0 && len(s) < 5:
		return "", "", api.ErrShort
	case last < 0:
		return "", "", api.ErrSize
	case last > 0 && s[last] == 0:
		return "", "", api.ErrForm
	}
	n, _ := binary.Uvarint([]byte(s[:last+1]))
	if n > mostFrame {
		return "", "", api.ErrSize
	}
	if n > uint64(len(s)-last-1) {
		return "", "", api.ErrShort
	}
	end := last + 1 + int(n)
	return s[last+1 : end], s[end:], api.OK
}

// openWords is by 13.2's words the message in a frame.
func openWords(s string) (api.Message, api.Errno) {
	ahead := s[:max(0, len(s)-4)]
	switch {
	case len(s) > mostFrame:
		return api.Message{}, api.ErrSize
	case len(s) < 4 || s != sealed(ahead):
		return api.Message{}, api.ErrSum
	case len(ahead) < 3:
		return api.Message{}, api.ErrShort
	case ahead[0] != 'h' || ahead[1] != 's':
		return api.Message{}, api.ErrForm
	case ahead[2] != 1:
		return api.Message{}, api.ErrKind
	}
	inside, behind, err := textWords(ahead[3:])
	if err != api.OK {
		return api.Message{}, err
	}
	if behind != "" {
		return api.Message{}, api.ErrMore
	}
	return message.Read(inside)
}

// holdOpen holds what a text is opened as against the words, that beside an error there is nothing, and that what is opened is sealed to just this text.
func holdOpen(t *testing.T, s string) api.Errno {
	t.Helper()
	m, err := Open(s)
	want, wrong := openWords(s)
	if !sameWords(m, want) || err != wrong {
		t.Fatalf("%s: %s, %v, not %s, %v", short(s), tell(m), err, tell(want), wrong)
	}
	if err != api.OK && !isNone(m) {
		t.Fatalf("%s: %s beside %v", short(s), tell(m), err)
	}
	if err == api.OK {
		if again, err := Seal(m); again != s || err != api.OK {
			t.Fatalf("%s is opened as %s, which is sealed to %s, %v", short(s), tell(m), short(again), err)
		}
	}
	return err
}

// holdMet holds that each of these errors was met so often.
func holdMet(t *testing.T, met map[api.Errno]int, least int, errs ...api.Errno) {
	t.Helper()
	for _, err := range errs {
		if met[err] < least {
			t.Errorf("only %d come to %v", met[err], err)
		}
	}
}

// of is a message of a kind, with no fields of its own.
func of(kind int) api.Message {
	return api.Message{Kind: kind, From: 1, To: 2, Sid: 3}
}

// bodyOf is a Body whose bytes are so many (six or more), its text's length being a number of one to three.
func bodyOf(bytes int) api.Message {
	m := of(api.Body)
	for size := 1; size <= 3; size++ {
		m.Text = strings.Repeat("t", max(0, bytes-5-size))
		if s, _ := message.Bytes(m); len(s) == bytes {
			break
		}
	}
	return m
}

// longHead is the message that has most dots.
func longHead() api.Message {
	return api.Message{Kind: api.Head, From: 62, To: 63, Sid: top, Root: digest(0x80), Ctx: everyPeer(top), Rows: slices.Repeat([][]api.Dot{everyPeer(top)}, 64)}
}

// longBody is the message that has most bytes.
func longBody() api.Message {
	return api.Message{Kind: api.Body, From: 62, To: 63, Sid: top, Path: longPath, Text: strings.Repeat("\x80", mostText)}
}

// shortMessages are messages of all kinds that have few bytes.
func shortMessages() []api.Message {
	var all []api.Message
	for kind := api.Ask; kind <= api.Bye; kind++ {
		for _, e := range [][3]int{{1, 2, 3}, {0, 1, 1}, {1, 0, top}, {0, 63, 127}, {63, 0, 128}} {
			all = append(all, api.Message{Kind: kind, From: e[0], To: e[1], Sid: e[2]})
		}
	}
	turn := of(api.Bye)
	turn.Turn = true
	all = append(all, turn)
	for _, path := range []string{"", "a", "a/b.c", longPath} {
		m, n := of(api.Want), of(api.Body)
		m.Path, m.Root = path, digest(1)
		n.Path, n.Text = path, "hs\x01\x04" // as if a frame began in it
		all = append(all, m, n)
	}
	for _, v := range [][]api.Dot{{}, list(0, 1), list(0, 2, 3, 1), list(63, top)} {
		m := of(api.Head)
		m.Ctx, m.Rows = v, [][]api.Dot{v, nil, v}
		all = append(all, m)
	}
	return all
}

// goodMessages are messages of all kinds, and long ones, those among them whose number of bytes has itself one more.
func goodMessages() []api.Message {
	all := append(shortMessages(), longHead(), longBody())
	for _, path := range []string{"", "a"} {
		m := of(api.Body)
		m.Path, m.Text = path, strings.Repeat("\x00", mostText)
		all = append(all, m)
	}
	for _, bytes := range []int{6, 7, 126, 127, 128, 129, 255, 256, 16383, 16384, 16385, mostText - 1, mostText, mostText + 1} {
		all = append(all, bodyOf(bytes))
	}
	for _, v := range [][]api.Dot{everyPeer(1), everyPeer(300), everyPeer(top)} {
		m, n := of(api.Head), of(api.Head)
		m.Ctx, n.Rows = v, slices.Repeat([][]api.Dot{v}, 64)
		all = append(all, m, n)
	}
	m := of(api.Head)
	m.Rows = make([][]api.Dot, 64)
	return append(all, m)
}

// broken is a message that may not be, and why.
type broken struct {
	m   api.Message
	err api.Errno
}

// brokenMessages are messages that may not be, by each of message's errors.
func brokenMessages() []broken {
	long := strings.Repeat("t", mostText+1)
	all := []broken{
		{api.Message{}, api.ErrKind}, {of(7), api.ErrKind}, {of(-1), api.ErrKind}, {of(math.MaxInt), api.ErrKind},
		{api.Message{Kind: api.Head, Root: digest(1), Ctx: list(64, 1), Rows: make([][]api.Dot, 65)}, api.ErrPeer}, {api.Message{Kind: api.Body, Text: long}, api.ErrPeer},
		{api.Message{Kind: api.Head, To: 1, Ctx: list(0, 1)}, api.ErrCount}, {api.Message{Kind: api.Head, To: 1, Sid: 1, Ctx: list(0, 1), Text: "x"}, api.ErrForm},
		{api.Message{Kind: api.Want, To: 1, Sid: 1, Path: "A"}, api.ErrPath}, {api.Message{Kind: api.Body, To: 1, Sid: 1, Path: "a//b"}, api.ErrPath}, {api.Message{Kind: api.Body, To: 1, Sid: 1, Path: "/", Text: long}, api.ErrPath},
		{api.Message{Kind: api.Want, To: 1, Sid: 1, Path: longPath + "m"}, api.ErrSize}, {api.Message{Kind: api.Body, To: 1, Sid: 1, Text: long}, api.ErrSize}, {api.Message{Kind: api.Body, To: 1, Sid: 1, Path: "a", Text: long + long}, api.ErrSize},
		{api.Message{Kind: api.Head, To: 1, Sid: 1, Ctx: list(64, 1)}, api.ErrPeer}, {api.Message{Kind: api.Head, To: 1, Sid: 1, Ctx: list(0, 0)}, api.ErrCount}, {api.Message{Kind: api.Head, To: 1, Sid: 1, Ctx: list(1, 1, 0, 1)}, api.ErrOrder},
		{api.Message{Kind: api.Head, To: 1, Sid: 1, Rows: make([][]api.Dot, 65)}, api.ErrSize}, {api.Message{Kind: api.Head, To: 1, Sid: 1, Rows: [][]api.Dot{nil, list(64, 1)}}, api.ErrPeer}, {api.Message{Kind: api.Head, To: 1, Sid: 1, Rows: [][]api.Dot{nil, list(0, top+1)}}, api.ErrCount}, {api.Message{Kind: api.Head, To: 1, Sid: 1, Rows: [][]api.Dot{list(0, 1, 0, 1)}}, api.ErrOrder},
	}
	for kind := api.Ask; kind <= api.Bye; kind++ {
		for _, e := range [][3]int{{1, 1, 1}, {-1, 1, 1}, {1, 64, 1}, {math.MinInt, 0, 0}} {
			all = append(all, broken{api.Message{Kind: kind, From: e[0], To: e[1], Sid: e[2]}, api.ErrPeer})
		}
		for _, sid := range []int{0, -1, top + 1, math.MaxInt} {
			all = append(all, broken{api.Message{Kind: kind, From: 1, To: 2, Sid: sid}, api.ErrCount})
		}
		m, n := of(kind), of(kind)
		if m.Turn = true; kind == api.Bye {
			m.Turn, m.Root = false, digest(1)
		}
		if n.Text = "x"; kind == api.Body {
			n.Text, n.Ctx = "", list(0, 1)
		}
		all = append(all, broken{m, api.ErrForm}, broken{n, api.ErrForm})
	}
	return all
}

// drawnVector is a vector that is drawn.
func drawnVector(draw *rand.Rand) []api.Dot {
	var v []api.Dot
	for peer := draw.Intn(5); peer < 64 && draw.Intn(4) > 0; peer += 1 + draw.Intn(20) {
		v = append(v, api.Dot{Peer: peer, Count: 1 + draw.Intn([]int{1, 3, 300, top}[draw.Intn(4)])})
	}
	return v
}

// drawnMessage is a message that is drawn.
func drawnMessage(draw *rand.Rand) api.Message {
	peers := draw.Perm([]int{3, 64}[draw.Intn(2)]) // often the first few alone, so that a bent one comes to be the other one
	m := api.Message{Kind: 1 + draw.Intn(6), From: peers[0], To: peers[1], Sid: 1 + draw.Intn([]int{2, 300, top}[draw.Intn(3)])}
	paths := []string{"", "a", "b/c", longPath}
	switch m.Kind {
	case api.Head:
		draw.Read(m.Root[:])
		m.Ctx = drawnVector(draw)
		for range draw.Intn(5) {
			m.Rows = append(m.Rows, drawnVector(draw))
		}
	case api.Want:
		draw.Read(m.Root[:])
		m.Path = paths[draw.Intn(len(paths))]
	case api.Body:
		m.Path = paths[draw.Intn(len(paths))]
		m.Text = strings.Repeat(string(rune(draw.Intn(200))), draw.Intn(300))
	case api.Bye:
		m.Turn = draw.Intn(2) == 1
	}
	return m
}

// bent is a text, changed by a few draws.
func bent(draw *rand.Rand, s string) string {
	const edge = "\x00\x01\x02\x3f\x40\x41\x80\x81\xffhs"
	bytes := []byte(s)
	for range draw.Intn(3) {
		at, sign := draw.Intn(len(bytes)+1), edge[draw.Intn(len(edge))]
		switch draw.Intn(4) {
		case 0:
			bytes = bytes[:at]
		case 1:
			bytes = slices.Insert(bytes, at, sign)
		case 2:
			bytes = slices.Delete(bytes, max(0, at-1), at)
		default:
			if at < len(bytes) {
				bytes[at] = sign
			}
		}
	}
	return string(bytes)
}

// textsOf are all texts of up to so many bytes of a few.
func textsOf(signs string, most int) []string {
	texts, row := []string{""}, []string{""}
	for range most {
		var longer []string
		for _, s := range row {
			for i := range len(signs) {
				longer = append(longer, s+signs[i:i+1])
			}
		}
		texts, row = append(texts, longer...), longer
	}
	return texts
}

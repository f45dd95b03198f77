package message

import (
	"math/rand"
	"slices"
	"strings"
	"sync"
	"testing"

	"hearsay/api"
)

// told is a message, and its bytes, written down.
type told struct {
	m api.Message
	s string
}

// toldMessages are messages of each kind with their bytes.
func toldMessages() []told {
	root := "\x00\x01\x02\x03\x04\x05\x06\x07\x08\x09\x0a\x0b\x0c\x0d\x0e\x0f\x10\x11\x12\x13\x14\x15\x16\x17\x18\x19\x1a\x1b\x1c\x1d\x1e\x1f"
	none := strings.Repeat("\x00", 32)
	long := strings.Repeat("t", mostText)
	return []told{
		// The chapter's example first; numbers of one to three bytes.
		{api.Message{Kind: api.Ask, From: 1, To: 2, Sid: 3}, "\x01\x01\x02\x03"}, {api.Message{Kind: api.Ask, To: lastPeer, Sid: 300}, "\x01\x00\x3f\xac\x02"}, {api.Message{Kind: api.Ask, From: lastPeer, Sid: top}, "\x01\x3f\x00\x80\x80\x40"},
		{api.Message{Kind: api.Gone, From: 1, To: 2, Sid: 127}, "\x05\x01\x02\x7f"}, {api.Message{Kind: api.Gone, From: 1, To: 2, Sid: 128}, "\x05\x01\x02\x80\x01"},
		{api.Message{Kind: api.Bye, From: 2, To: 1, Sid: 1}, "\x06\x02\x01\x01\x00"}, {api.Message{Kind: api.Bye, From: 2, To: 1, Sid: 1, Turn: true}, "\x06\x02\x01\x01\x01"},
		{api.Message{Kind: api.Body, To: 1, Sid: 1}, "\x04\x00\x01\x01\x00\x00"}, {api.Message{Kind: api.Body, To: 1, Sid: 1, Path: "a", Text: "xy"}, "\x04\x00\x01\x01\x01a\x02xy"}, {api.Message{Kind: api.Body, To: 1, Sid: 1, Path: longPath}, "\x04\x00\x01\x01\x33" + longPath + "\x00"}, {api.Message{Kind: api.Body, To: 1, Sid: 1, Text: long}, "\x04\x00\x01\x01\x00\x80\x80\x04" + long},
		{api.Message{Kind: api.Want, To: 1, Sid: 1}, "\x03\x00\x01\x01" + none + "\x00"}, {api.Message{Kind: api.Want, To: 1, Sid: 1, Root: digest(0), Path: "a/b.c"}, "\x03\x00\x01\x01" + root + "\x05a/b.c"},
		{api.Message{Kind: api.Head, To: 1, Sid: 1}, "\x02\x00\x01\x01" + none + "\x00\x00"}, {api.Message{Kind: api.Head, To: 1, Sid: 1, Root: digest(0), Ctx: list(0, 2, 3, 1)}, "\x02\x00\x01\x01" + root + "\x02\x00\x02\x03\x01\x00"}, {api.Message{Kind: api.Head, To: 1, Sid: 1, Rows: [][]api.Dot{nil}}, "\x02\x00\x01\x01" + none + "\x00\x01\x00"},
		{api.Message{Kind: api.Head, To: 1, Sid: 1, Ctx: list(5, 300), Rows: [][]api.Dot{list(0, 1), {}, list(1, 2, lastPeer, 3)}}, "\x02\x00\x01\x01" + none + "\x01\x05\xac\x02\x03\x01\x00\x01\x00\x02\x01\x02\x3f\x03"}, {api.Message{Kind: api.Head, To: 1, Sid: 1, Rows: make([][]api.Dot, 64)}, "\x02\x00\x01\x01" + none + "\x00\x40" + strings.Repeat("\x00", 64)},
	}
}

// 12.1, 12.2: each message's bytes, as they are written down, and what they are.
func TestTold(t *testing.T) {
	for _, c := range toldMessages() {
		if err := Check(c.m); err != api.OK {
			t.Errorf("%s: %v", tell(c.m), err)
		}
		if s, err := Bytes(c.m); s != c.s || err != api.OK {
			t.Errorf("%s is %q, %v", tell(c.m), short(s), err)
		}
		if m, err := Read(c.s); !sameWords(m, c.m) || err != api.OK {
			t.Errorf("%q is %s, %v", short(c.s), tell(m), err)
		}
	}
}

// 12.1: messages of all kinds may be, and their bytes are those of the words.
func TestGood(t *testing.T) {
	for _, m := range goodMessages() {
		if words := checkWords(m); words != api.OK {
			t.Fatalf("%s may not be: %v", tell(m), words)
		}
		if err := Check(m); err != api.OK {
			t.Errorf("%s: %v", tell(m), err)
		}
		if s, err := Bytes(m); s != together(partsOf(m)) || err != api.OK {
			t.Errorf("%s is %q, %v", tell(m), short(s), err)
		}
	}
}

// 12.1, R2: of a message that may not be the first of what is wrong is told, and there are no bytes.
func TestBroken(t *testing.T) {
	for _, c := range brokenMessages() {
		if words := checkWords(c.m); words != c.err {
			t.Fatalf("%s should be %v, by the words %v", tell(c.m), c.err, words)
		}
		if err := Check(c.m); err != c.err {
			t.Errorf("%s: %v, not %v", tell(c.m), err, c.err)
		}
		if s, err := Bytes(c.m); s != "" || err != c.err {
			t.Errorf("%s: %q, %v, not %v", tell(c.m), short(s), err, c.err)
		}
	}
}

// faults make something wrong of a message, in the order in which the chapter names what may be.
func faults() []func(m *api.Message) {
	return []func(m *api.Message){
		func(m *api.Message) { m.Kind = 7 },
		func(m *api.Message) { m.To = m.From },
		func(m *api.Message) { m.Sid = 0 },
		func(m *api.Message) { // a field that is the kind's own nowhere it is asked here
			if m.Turn = true; m.Kind == bye {
				m.Turn, m.Root = false, digest(1)
			}
		},
	}
}

// 12.1: of each two of the first four faults the one that is named first; and each of them ahead of what may be wrong of the kind's own fields.
func TestFirstFault(t *testing.T) {
	errs := []api.Errno{api.ErrKind, api.ErrPeer, api.ErrCount, api.ErrForm}
	var all []api.Message
	for kind := ask; kind <= bye; kind++ {
		all = append(all, of(kind))
	}
	for _, c := range brokenFields() {
		all = append(all, c.m)
	}
	for _, m := range all {
		for i := range errs {
			for j := i; j < len(errs); j++ {
				n := m
				faults()[j](&n)
				faults()[i](&n)
				if err := Check(n); err != errs[i] {
					t.Fatalf("%s, the faults %d and %d: %v", tell(n), i, j, err)
				}
			}
		}
	}
}

// 12.1: each field that is not a kind's own, set to each of several things, is ErrForm; each that is its own may be set. Lists without elements are let be.
func TestOwnFields(t *testing.T) {
	owns, others := 0, 0
	for kind := ask; kind <= bye; kind++ {
		for _, s := range setters()[:8] {
			for _, empty := range []bool{false, true} {
				m := of(kind)
				if empty {
					m.Ctx, m.Rows = []api.Dot{}, make([][]api.Dot, 0, 3)
				}
				s.set(&m)
				err := Check(m)
				own := slices.Contains(ownWords(kind), s.field)
				if own && err != api.OK || !own && err != api.ErrForm {
					t.Errorf("%s, by its %s: %v", tell(m), s.field, err)
				}
				if own {
					owns++
				} else {
					others++
				}
			}
		}
	}
	if owns != 22 || others != 74 {
		t.Errorf("%d of their own, %d others", owns, others)
	}
}

// 12.1: all pairs of peers from one below to one above, and the sids at the limits.
func TestEnds(t *testing.T) {
	for from := -1; from <= 64; from++ {
		for to := -1; to <= 64; to++ {
			want := api.ErrPeer
			if from >= 0 && from < 64 && to >= 0 && to < 64 && from != to {
				want = api.OK
			}
			if err := Check(api.Message{Kind: ask, From: from, To: to, Sid: 1}); err != want {
				t.Errorf("from %d to %d: %v", from, to, err)
			}
		}
	}
	for sid, want := range map[int]api.Errno{-1: api.ErrCount, 0: api.ErrCount, 1: api.OK, 2: api.OK, top - 1: api.OK, top: api.OK, top + 1: api.ErrCount} {
		if err := Check(api.Message{Kind: gone, From: 1, To: 2, Sid: sid}); err != want {
			t.Errorf("sid %d: %v", sid, err)
		}
	}
}

// holdRead holds what is read of a text against the words, and that what is read has just these bytes.
func holdRead(t *testing.T, s string) api.Errno {
	t.Helper()
	m, err := Read(s)
	want, wrong := readWords(s)
	if !sameWords(m, want) || err != wrong {
		t.Fatalf("%q: %s, %v, not %s, %v", short(s), tell(m), err, tell(want), wrong)
	}
	if err == api.OK {
		if again, err := Bytes(m); again != s || err != api.OK {
			t.Fatalf("%q is read as %s, which is %q, %v", short(s), tell(m), short(again), err)
		}
	}
	return err
}

// wrongRow is a text that is no message, and why.
type wrongRow struct {
	s   string
	err api.Errno
}

// 12.2: bytes that are wrong, written down.
func TestReadWrong(t *testing.T) {
	const none = "\x00\x00\x00\x00\x00\x00\x00\x00\x00\x00\x00\x00\x00\x00\x00\x00\x00\x00\x00\x00\x00\x00\x00\x00\x00\x00\x00\x00\x00\x00\x00\x00"
	const h, w, b = "\x02\x00\x01\x01" + none, "\x03\x00\x01\x01" + none, "\x04\x00\x01\x01" // Head, Want and Body, up to their lists and texts
	for _, c := range []wrongRow{
		// It ends too early.
		{"", api.ErrShort}, {"\x80", api.ErrShort}, {"\x01", api.ErrShort}, {"\x01\x01", api.ErrShort}, {"\x01\x01\x02", api.ErrShort}, {"\x01\x01\x02\x80", api.ErrShort}, {"\x05\x01\x02", api.ErrShort}, {"\x06\x01\x02\x03", api.ErrShort}, {b, api.ErrShort}, {b + "\x01", api.ErrShort}, {b + "\x01a", api.ErrShort}, {b + "\x01a\x02x", api.ErrShort}, {w[:35], api.ErrShort}, {w, api.ErrShort}, {w + "\x01", api.ErrShort}, {h[:4], api.ErrShort}, {h[:35], api.ErrShort}, {h, api.ErrShort}, {h + "\x00", api.ErrShort}, {h + "\x01\x00", api.ErrShort}, {h + "\x00\x01", api.ErrShort}, {h + "\x00\x02\x00", api.ErrShort}, {h + "\x00\x02\x01\x00\x01", api.ErrShort},
		// A kind that there is not, whatever stands behind; one that is no number.
		{"\x00", api.ErrKind}, {"\x07", api.ErrKind}, {"\x07\x01\x02\x03", api.ErrKind}, {"\x00\x80\x00", api.ErrKind}, {"\x07\x40", api.ErrKind}, {"\x08\x80", api.ErrKind}, {"\x80\x80\x80\x80\x04", api.ErrKind}, {"\x86\x02", api.ErrKind}, {"\x81\x00", api.ErrForm}, {"\x81\x80\x80\x80\x04", api.ErrSize}, {"\xff\xff\xff\xff\x7f", api.ErrSize}, {"\x80\x80\x80\x80\x80", api.ErrSize},
		// A number that is not in its form.
		{"\x01\x81\x00\x02\x03", api.ErrForm}, {"\x01\x01\x82\x00\x03", api.ErrForm}, {"\x01\x01\x02\x83\x00", api.ErrForm}, {b + "\x80\x00\x00", api.ErrForm}, {b + "\x00\x80\x00", api.ErrForm}, {w + "\x81\x00a", api.ErrForm}, {h + "\x80\x00\x00", api.ErrForm}, {h + "\x01\x81\x00\x01\x00", api.ErrForm}, {h + "\x01\x01\x81\x00\x00", api.ErrForm}, {h + "\x00\x80\x00", api.ErrForm}, {h + "\x00\x01\x80\x00", api.ErrForm},
		// Above what it may be at most.
		{"\x01\x40\x02\x03", api.ErrSize}, {"\x01\x01\x40\x03", api.ErrSize}, {"\x01\x40", api.ErrSize}, {"\x01\x01\x80\x01\x03", api.ErrSize}, {"\x01\x01\x02\x81\x80\x40", api.ErrSize}, {"\x01\x01\x02\x80\x80\x80\x80\x04", api.ErrSize}, {b + "\x34" + strings.Repeat("a", 52) + "\x00", api.ErrSize}, {b + "\x34", api.ErrSize}, {w + "\x34" + strings.Repeat("a", 52), api.ErrSize}, {b + "\x00\x81\x80\x04" + strings.Repeat("t", mostText+1), api.ErrSize}, {b + "\x00\x81\x80\x04", api.ErrSize}, {h + "\x41", api.ErrSize}, {h + "\x01\x40", api.ErrSize}, {h + "\x01\x00\x81\x80\x40", api.ErrSize}, {h + "\x00\x41" + strings.Repeat("\x00", 65), api.ErrSize}, {h + "\x00\x41", api.ErrSize}, {h + "\x00\x01\x41", api.ErrSize}, {h + "\x00\x01\x01\x40\x01", api.ErrSize},
		// A flag of another byte.
		{"\x06\x01\x02\x03\x02", api.ErrForm}, {"\x06\x01\x02\x03\xff", api.ErrForm}, {"\x06\x01\x02\x03\x80\x01", api.ErrForm}, {"\x06\x01\x01\x00\x02", api.ErrForm},
		// A list that is no vector is told where it stands.
		{h + "\x01\x00\x00\x00", api.ErrCount}, {h + "\x01\x00\x00", api.ErrCount}, {h + "\x01\x00\x00\x41", api.ErrCount}, {h + "\x02\x01\x01\x01\x01\x00", api.ErrOrder}, {h + "\x02\x01\x01\x00\x01", api.ErrOrder}, {h + "\x00\x01\x01\x05\x00", api.ErrCount}, {h + "\x00\x02\x02\x01\x01\x00\x01\x80\x00", api.ErrOrder}, {h + "\x00\x02\x00\x02\x01\x01\x00\x01", api.ErrOrder},
		// Bytes behind the end.
		{"\x01\x01\x02\x03\x00", api.ErrMore}, {"\x05\x01\x02\x03\x05", api.ErrMore}, {"\x06\x01\x02\x03\x01\x00", api.ErrMore}, {b + "\x00\x00\x00", api.ErrMore}, {w + "\x01aa", api.ErrMore}, {h + "\x00\x00\x00", api.ErrMore},
		// It is read, and may not be; behind the end it is told as such first.
		{"\x01\x01\x01\x03", api.ErrPeer}, {"\x01\x00\x00\x00", api.ErrPeer}, {"\x01\x01\x02\x00", api.ErrCount}, {"\x06\x3f\x3f\x01\x01", api.ErrPeer}, {"\x01\x01\x01\x03\x00", api.ErrMore}, {"\x01\x01\x02\x00\x00", api.ErrMore},
		{b + "\x01A\x00", api.ErrPath}, {b + "\x01A\x00\x00", api.ErrMore}, {b + "\x01A\x02x", api.ErrShort}, {b + "\x01A\x81\x80\x04", api.ErrSize}, {w + "\x02a/", api.ErrPath}, {w + "\x02..a", api.ErrMore}, {b + "\x33" + strings.Repeat("a", 51) + "\x00", api.ErrPath}, {"\x04\x01\x01\x01\x01A\x00", api.ErrPeer}, {"\x04\x00\x01\x00\x01A\x00", api.ErrCount}, {"\x02\x01\x01\x00" + none + "\x01\x00\x00\x00", api.ErrCount}, {"\x02\x01\x01\x00" + none + "\x00\x00", api.ErrPeer},
	} {
		if m, err := Read(c.s); !isNone(m) || err != c.err {
			t.Errorf("%q: %s, %v, not %v", short(c.s), tell(m), err, c.err)
		}
		holdRead(t, c.s)
	}
}

// wrongParts are what may stand in place of a part, and what is wrong then; nothing may stand behind what is short.
func wrongParts(p part) []wrongRow {
	all := []wrongRow{{"", api.ErrShort}}
	switch p.what {
	case "flag":
		return append(all, wrongRow{"\x02", api.ErrForm}, wrongRow{"\x80", api.ErrForm}, wrongRow{"\xff", api.ErrForm})
	case "digest":
		return append(all, wrongRow{p.s[:1], api.ErrShort}, wrongRow{p.s[:31], api.ErrShort})
	}
	above := number(p.most+1, p.most).s
	all = append(all, wrongRow{"\x80", api.ErrShort}, wrongRow{"\xff\xff\xff\xff", api.ErrShort}, wrongRow{"\x80\x00", api.ErrForm}, wrongRow{"\x83\x80\x00", api.ErrForm}, wrongRow{above, api.ErrSize}, wrongRow{"\x80\x80\x80\x80\x80", api.ErrSize}, wrongRow{"\xff\xff\xff\xff\x7f", api.ErrSize})
	if p.what == "text" {
		all = append(all, wrongRow{p.s[:len(p.s)-1], api.ErrShort}, wrongRow{text(strings.Repeat("a", p.most), p.most).s[:p.most], api.ErrShort}, wrongRow{above + strings.Repeat("a", p.most+1), api.ErrSize})
	}
	return all
}

// 12.2: in place of each part of each message, each that is wrong; what stands behind it can't change that, and nothing is answered.
func TestReadEachPart(t *testing.T) {
	for _, m := range goodMessages() {
		parts := partsOf(m)
		step := 1 + len(parts)/60
		for i := 0; i < len(parts); i += step {
			ahead, behind := together(parts[:i]), together(parts[i+1:])
			for _, wrong := range wrongParts(parts[i]) {
				texts := []string{ahead + wrong.s}
				if wrong.err != api.ErrShort {
					texts = append(texts, ahead+wrong.s+behind, ahead+wrong.s+strings.Repeat("\x00", 70))
				}
				for _, s := range texts {
					if got, err := Read(s); !isNone(got) || err != wrong.err {
						t.Fatalf("%s, in place of the part %d (%s) %q: %s, %v, not %v", tell(m), i, parts[i].what, short(wrong.s), tell(got), err, wrong.err)
					}
				}
			}
		}
	}
}

// 12.2: messages that are cut anywhere are short (long ones at some 400 places), and nothing is answered.
func TestReadCut(t *testing.T) {
	for _, m := range goodMessages() {
		s := together(partsOf(m))
		step := 1 + len(s)/400
		for length := 0; length < len(s); length += step {
			if got, err := Read(s[:length]); !isNone(got) || err != api.ErrShort {
				t.Fatalf("%s, cut behind %d bytes of %d: %s, %v", tell(m), length, len(s), tell(got), err)
			}
		}
	}
}

// 12.2: bytes behind the end.
func TestReadMore(t *testing.T) {
	for _, m := range goodMessages() {
		s := together(partsOf(m))
		for _, behind := range []string{"\x00", "\x01", "\x80", "\xff", "x", "\x01\x01\x02\x03"} {
			if got, err := Read(s + behind); !isNone(got) || err != api.ErrMore {
				t.Errorf("%s ahead of %q: %s, %v", tell(m), behind, tell(got), err)
			}
		}
	}
}

// 12.2: bytes that are read as messages that may not be. (Numbers below 0 have no bytes, nor have fields that are not a kind's own.)
func TestReadBroken(t *testing.T) {
	met := map[api.Errno]int{}
	for _, c := range brokenMessages() {
		numbers := []int{c.m.Kind, c.m.From, c.m.To, c.m.Sid}
		for _, v := range append([][]api.Dot{c.m.Ctx}, c.m.Rows...) {
			for _, d := range v {
				numbers = append(numbers, d.Peer, d.Count)
			}
		}
		if c.err == api.ErrForm || slices.Min(numbers) < 0 {
			continue
		}
		err := holdRead(t, together(partsOf(c.m)))
		if err == api.OK || err == api.ErrMore {
			t.Errorf("%s is read of its bytes", tell(c.m))
		}
		met[err]++
	}
	holdMet(t, met, 5, api.ErrKind, api.ErrPeer, api.ErrCount, api.ErrSize, api.ErrPath, api.ErrOrder)
}

// holdMet holds that each of these errors was met so often.
func holdMet(t *testing.T, met map[api.Errno]int, least int, errs ...api.Errno) {
	t.Helper()
	for _, err := range errs {
		if met[err] < least {
			t.Errorf("only %d come to %v", met[err], err)
		}
	}
}

// textsOf are all texts of up to so many bytes of a few.
func textsOf(signs string, most int) []string {
	texts, row := []string{""}, []string{""}
	for range most {
		var longer []string
		for _, s := range row {
			for i := range len(signs) {
				longer = append(longer, s+signs[i:i+1])
			}
		}
		texts, row = append(texts, longer...), longer
	}
	return texts
}

// 12.2, 12.3: all texts of a few bytes, against the words, alone and as fields.
func TestReadSmall(t *testing.T) {
	met := map[api.Errno]int{}
	for _, s := range textsOf("\x00\x01\x02\x04\x05\x06\x07\x40\x80", 5) {
		met[holdRead(t, s)]++
	}
	for _, s := range textsOf("\x00\x01\x02\x03/a", 6) {
		met[holdRead(t, "\x04\x00\x01\x01"+s)]++
		met[holdRead(t, "\x03\x00\x01\x01"+strings.Repeat("\x00", 32)+s)]++
	}
	for _, s := range textsOf("\x00\x01\x02\x40\x80", 7) {
		met[holdRead(t, "\x02\x00\x01\x01"+strings.Repeat("\xff", 32)+s)]++
	}
	holdMet(t, met, 50, api.OK, api.ErrMore, api.ErrShort, api.ErrSize, api.ErrForm, api.ErrCount, api.ErrOrder, api.ErrPath, api.ErrKind, api.ErrPeer)
}

// bent are a message's bytes, changed by a few draws.
func bent(draw *rand.Rand, s string) string {
	const edge = "\x00\x01\x02\x3f\x40\x41\x80\x81\xff"
	bytes := []byte(s)
	for range draw.Intn(3) {
		at, sign := draw.Intn(len(bytes)+1), edge[draw.Intn(len(edge))]
		switch draw.Intn(4) {
		case 0:
			bytes = bytes[:at]
		case 1:
			bytes = slices.Insert(bytes, at, sign)
		case 2:
			bytes = slices.Delete(bytes, max(0, at-1), at)
		default:
			if at < len(bytes) {
				bytes[at] = sign
			}
		}
	}
	return string(bytes)
}

// 12.2, 12.3: bytes of drawn messages, as they are and changed, against the words.
func TestReadDrawn(t *testing.T) {
	draw := rand.New(rand.NewSource(122))
	met := map[api.Errno]int{}
	for range 20000 {
		met[holdRead(t, bent(draw, together(partsOf(drawnMessage(draw)))))]++
	}
	holdMet(t, met, 20, api.OK, api.ErrMore, api.ErrShort, api.ErrForm, api.ErrSize, api.ErrCount, api.ErrOrder, api.ErrPath, api.ErrKind, api.ErrPeer)
}

// 12.3: each message that may be is read as it was written.
func TestWrittenIsRead(t *testing.T) {
	draw := rand.New(rand.NewSource(123))
	all := goodMessages()
	for range 3000 {
		all = append(all, drawnMessage(draw))
	}
	for _, m := range all {
		s, err := Bytes(m)
		if err != api.OK {
			t.Fatalf("%s: %v", tell(m), err)
		}
		got, err := Read(s)
		if !Same(got, m) || !sameWords(got, m) || err != api.OK {
			t.Fatalf("%s is read as %s, %v", tell(m), tell(got), err)
		}
	}
}

// 12.3: there is one row of bytes of each: messages have the same bytes if they are the same, and then alone.
func TestOneRowOfBytes(t *testing.T) {
	all := goodMessages()
	bytes := make([]string, len(all))
	for i, m := range all {
		bytes[i], _ = Bytes(m)
	}
	for i, a := range all {
		for j, b := range all {
			if is := sameWords(a, b); is != (bytes[i] == bytes[j]) || is != Same(a, b) {
				t.Errorf("%s and %s: the same %t, by Same %t, by bytes %t", tell(a), tell(b), is, Same(a, b), bytes[i] == bytes[j])
			}
		}
	}
}

// full is a message with all fields set; it may not be.
func full() api.Message {
	return api.Message{Kind: 9, From: -5, To: 99, Sid: 1 << 40, Turn: true, Path: "A", Root: digest(3), Ctx: list(64, 0, 1, 5), Rows: [][]api.Dot{list(9, 0), nil, list(9, 0, 9, 1)}, Text: "xy"}
}

// others are ways to change one field of a message alone.
func others() map[string]func(m *api.Message) {
	return map[string]func(m *api.Message){
		"Kind": func(m *api.Message) { m.Kind++ }, "From": func(m *api.Message) { m.From++ }, "To": func(m *api.Message) { m.To-- }, "Sid": func(m *api.Message) { m.Sid += 1 << 32 }, "Turn": func(m *api.Message) { m.Turn = !m.Turn },
		"Path": func(m *api.Message) { m.Path += "a" }, "Path's case": func(m *api.Message) { m.Path = strings.ToLower(m.Path) + "\x00" }, "Root's first": func(m *api.Message) { m.Root[0]++ }, "Root's last": func(m *api.Message) { m.Root[31] ^= 0x80 }, "Text": func(m *api.Message) { m.Text += "\x00" }, "Text's first": func(m *api.Message) { m.Text = "z" + m.Text },
		"Ctx longer": func(m *api.Message) { m.Ctx = append(slices.Clone(m.Ctx), dot(0, 0)) }, "Ctx's last": func(m *api.Message) { m.Ctx = append(slices.Clone(m.Ctx), dot(0, 1)) },
		"a row more": func(m *api.Message) { m.Rows = append(slices.Clone(m.Rows), nil) }, "a row ahead": func(m *api.Message) { m.Rows = append([][]api.Dot{nil}, m.Rows...) },
	}
}

// 12.1: Same asks each field, of messages that may not be, too.
func TestSameEachField(t *testing.T) {
	for _, m := range append(goodMessages(), full(), api.Message{}) {
		if !Same(m, m) {
			t.Errorf("%s is not the same as itself", tell(m))
		}
		for name, change := range others() {
			n := m
			change(&n)
			if Same(m, n) || Same(n, m) {
				t.Errorf("%s is the same as by %s: %s", tell(m), name, tell(n))
			}
		}
	}
}

// 12.1: Same goes through lists element by element, whether they are of one length or of several.
func TestSameLists(t *testing.T) {
	lists := [][]api.Dot{nil, {}, list(0, 1), list(0, 2), list(1, 1), list(0, 1, 0, 1), list(0, 1, 1, 1), list(1, 1, 0, 1), list(0, 0), list(0, 0, 0, 0), list(-1, 64), everyPeer(1), everyPeer(1)[:63], everyPeer(2)}
	rows := [][][]api.Dot{nil, {}, {nil}, {{}}, {nil, nil}, {list(0, 1)}, {list(0, 1), nil}, {nil, list(0, 1)}, {list(0, 1), list(0, 1)}, {list(0, 1, 0, 1)}, {list(0, 2)}, make([][]api.Dot, 64), make([][]api.Dot, 65), {list(0, 0)}, {list(0, 0), list(0, 0)}}
	for _, a := range lists {
		for _, b := range lists {
			if is := Same(api.Message{Ctx: a}, api.Message{Ctx: b}); is != sameDots(a, b) {
				t.Errorf("%s and %s: %t", tellDots(a), tellDots(b), is)
			}
			if is := Same(api.Message{Rows: [][]api.Dot{a, list(7, 7)}}, api.Message{Rows: [][]api.Dot{b, list(7, 7)}}); is != sameDots(a, b) {
				t.Errorf("as rows, %s and %s: %t", tellDots(a), tellDots(b), is)
			}
		}
	}
	for _, a := range rows {
		for _, b := range rows {
			m, n := api.Message{Kind: head, Rows: a}, api.Message{Kind: head, Rows: b}
			if is := Same(m, n); is != sameWords(m, n) {
				t.Errorf("%s and %s: %t", tell(m), tell(n), is)
			}
		}
	}
}

// 12.1, R3: a list of no elements and none are the same, of rows within, too, and have the same bytes.
func TestNoElements(t *testing.T) {
	for kind := ask; kind <= bye; kind++ {
		m, n := of(kind), of(kind)
		n.Ctx, n.Rows = []api.Dot{}, [][]api.Dot{}
		s, err := Bytes(m)
		other, wrong := Bytes(n)
		if !Same(m, n) || !Same(n, m) || s != other || err != api.OK || wrong != api.OK {
			t.Errorf("%s: %q, %v, and with lists without elements %q, %v", tell(m), s, err, other, wrong)
		}
	}
	m, n := of(head), of(head)
	m.Rows, n.Rows = [][]api.Dot{nil, list(0, 1)}, [][]api.Dot{{}, list(0, 1)}
	s, _ := Bytes(m)
	if other, err := Bytes(n); !Same(m, n) || s != other || err != api.OK {
		t.Errorf("%q and %q, %v", s, other, err)
	}
}

// copyOf is a message that shares no memory with another one.
func copyOf(m api.Message) api.Message {
	m.Ctx, m.Rows = slices.Clone(m.Ctx), slices.Clone(m.Rows)
	for i := range m.Rows {
		m.Rows[i] = slices.Clone(m.Rows[i])
	}
	return m
}

// roomy is a message whose lists have room behind their ends, with odd things there.
func roomy(m api.Message) api.Message {
	odd := dot(77, 77)
	m.Ctx = append(slices.Clone(m.Ctx), odd)[:len(m.Ctx)]
	m.Rows = append(slices.Clone(m.Rows), list(77, 77))[:len(m.Rows)]
	for i, row := range m.Rows {
		m.Rows[i] = append(slices.Clone(row), odd)[:len(row)]
	}
	return m
}

// behindEnds tells whether what stands behind the ends of a roomy message's lists is there still.
func behindEnds(m api.Message) bool {
	odd := dot(77, 77)
	is := m.Ctx[:len(m.Ctx)+1][len(m.Ctx)] == odd && sameDots(m.Rows[:len(m.Rows)+1][len(m.Rows)], list(77, 77))
	for _, row := range m.Rows {
		is = is && row[:len(row)+1][len(row)] == odd
	}
	return is
}

// scribble writes over all that a message's lists have, up to their capacity.
func scribble(m api.Message) {
	for _, v := range append([][]api.Dot{m.Ctx}, m.Rows...) {
		v = v[:cap(v)]
		for i := range v {
			v[i] = dot(1, 1000)
		}
	}
	rows := m.Rows[:cap(m.Rows)]
	for i := range rows {
		rows[i] = list(2, 2000)
	}
}

// R4: what is handed in is not changed, nor what lies behind its lists' ends.
func TestHandedIn(t *testing.T) {
	all := append(goodMessages(), full())
	for _, c := range brokenMessages() {
		all = append(all, c.m)
	}
	for _, given := range all {
		m := roomy(given)
		before := copyOf(m)
		err := Check(m)
		s, wrong := Bytes(m)
		if same := Same(m, given); !same || !sameWords(m, before) || !behindEnds(m) {
			t.Errorf("%s, handed in, is %s behind the calls, the same %t", tell(before), tell(m), same)
		}
		if words := checkWords(before); err != words || wrong != words {
			t.Errorf("%s: %v, %v, not %v", tell(before), err, wrong, words)
		}
		scribble(m)
		if words := together(partsOf(before)); wrong == api.OK && s != words {
			t.Errorf("%s: %q behind writing over", tell(before), short(s))
		}
	}
}

// R4: what is handed out is new memory, each time, and no two lists of it share any.
func TestHandedOut(t *testing.T) {
	for _, m := range goodMessages() {
		s := together(partsOf(m))
		first, _ := Read(s)
		second, _ := Read(s)
		scribble(first)
		if !sameWords(second, m) {
			t.Fatalf("%s, read again, is %s when the first one is written over", tell(m), tell(second))
		}
		for i := -1; i < len(second.Rows); i++ {
			apart := copyOf(second)
			list := second.Ctx
			if i >= 0 {
				list = second.Rows[i]
				apart.Rows[i] = nil
				second.Rows[i] = nil
			} else {
				apart.Ctx, second.Ctx = nil, nil
			}
			list = list[:cap(list)]
			for j := range list {
				list[j] = dot(5, 5000)
			}
			if !sameWords(second, apart) {
				t.Fatalf("%s: lists of one message share memory", tell(m))
			}
		}
	}
}

// R1, R5: messages and texts that are anything at all: each call ends, and answers the same again.
func TestAnything(t *testing.T) {
	draw := rand.New(rand.NewSource(121))
	odd := []int{-1 << 63, -1, 0, 1, 2, 3, 4, 5, 6, 7, 63, 64, top, top + 1, 1 << 30, 1<<63 - 1}
	one := func() int { return odd[draw.Intn(len(odd))] }
	vector := func() []api.Dot {
		var v []api.Dot
		for range draw.Intn(4) {
			v = append(v, dot(one(), one()))
		}
		return v
	}
	met := map[api.Errno]int{}
	for range 20000 {
		m := api.Message{Kind: draw.Intn(9) - 1, From: draw.Intn(66) - 1, To: draw.Intn(66) - 1, Sid: one()}
		if draw.Intn(3) == 0 {
			m.Ctx = vector()
		}
		if draw.Intn(3) == 0 {
			m.Rows = [][]api.Dot{vector(), vector()}
		}
		if draw.Intn(4) == 0 {
			m.Path = badPaths()[draw.Intn(len(badPaths()))].path
		}
		if draw.Intn(5) == 0 {
			draw.Read(m.Root[:])
		}
		m.Turn = draw.Intn(6) == 0
		err := Check(m)
		met[err]++
		s, wrong := Bytes(m)
		again, _ := Bytes(m)
		if words := checkWords(m); err != words || wrong != words || s != again || (s == "") != (err != api.OK) {
			t.Fatalf("%s: %v, %v, %q, not %v", tell(m), err, wrong, s, words)
		}
	}
	holdMet(t, met, 20, api.OK, api.ErrKind, api.ErrPeer, api.ErrCount, api.ErrForm, api.ErrPath, api.ErrSize, api.ErrOrder)
	for range 20000 {
		bytes := make([]byte, draw.Intn(60))
		draw.Read(bytes)
		if len(bytes) > 4 && draw.Intn(4) > 0 {
			copy(bytes, "\x02\x00\x01\x01")
			bytes[0] += byte(draw.Intn(5))
		}
		holdRead(t, string(bytes))
	}
}

// R4, R5: many at once, on the same messages.
func TestAtOnce(t *testing.T) {
	all := goodMessages()
	var group sync.WaitGroup
	for range 4 {
		group.Go(func() {
			for _, m := range all {
				s, err := Bytes(m)
				got, wrong := Read(s)
				if err != api.OK || wrong != api.OK || !Same(got, m) || Check(m) != api.OK {
					t.Errorf("%s at once: %v, %v", tell(m), err, wrong)
				}
			}
		})
	}
	group.Wait()
}

package record

import (
	"math/rand"
	"slices"
	"strings"
	"sync"
	"testing"

	"hearsay/api"
	"hearsay/coder"
)

// errnos are errors, and numbers that are none of the api's.
func errnos() []api.Errno {
	list := []api.Errno{-1, 17, 99}
	for e := api.ErrPath; e <= api.ErrLine; e++ {
		list = append(list, e)
	}
	return list
}

// told is a thing, and its bytes, written down.
type told struct {
	x thing
	s string
}

// toldThings are things with their bytes.
func toldThings() []told {
	var ones strings.Builder
	for peer := range 64 {
		ones.WriteByte(byte(peer))
		ones.WriteByte(1)
	}
	hi := live(1, 3, "hi", 0, 1)
	return []told{
		// No dots, one, the chapter's example, counts of one to three bytes, 64 dots.
		{aVector(nil), "\x00"}, {aVector([]api.Dot{}), "\x00"}, {aVector(list(0, 1)), "\x01\x00\x01"}, {aVector(list(0, 2, 3, 1)), "\x02\x00\x02\x03\x01"}, {aVector(list(lastPeer, 127)), "\x01\x3f\x7f"}, {aVector(list(1, 128, 2, 300)), "\x02\x01\x80\x01\x02\xac\x02"}, {aVector(list(lastPeer, top)), "\x01\x3f\x80\x80\x40"}, {aVector(everyPeer(1)), "\x40" + ones.String()},
		// No versions, live and Dead ones, without and with a Past, of no bytes and of 48.
		{aLeaf(), "\x00"}, {aLeaf(live(0, 1, "")), "\x01\x00\x01\x00\x00\x00"}, {aLeaf(live(0, 1, "x")), "\x01\x00\x01\x00\x00\x01x"}, {aLeaf(dead(0, 1)), "\x01\x00\x01\x00\x01\x00"}, {aLeaf(hi), "\x01\x01\x03\x01\x00\x01\x00\x02hi"}, {aLeaf(dead(lastPeer, top, 0, 2, 3, 1)), "\x01\x3f\x80\x80\x40\x02\x00\x02\x03\x01\x01\x00"},
		{aLeaf(live(0, 2, "y", 0, 1), live(1, 1, "o", 0, 1)), "\x02\x00\x02\x01\x00\x01\x00\x01y\x01\x01\x01\x00\x01\x00\x01o"}, {aLeaf(live(5, 1, strings.Repeat("d", 48))), "\x01\x05\x01\x00\x00\x30" + strings.Repeat("d", 48)}, {aLeaf(live(5, 1, "\x00\xff\x80", 5+1, 1, lastPeer, 200)), "\x01\x05\x01\x02\x06\x01\x3f\xc8\x01\x00\x03\x00\xff\x80"}, {aLeaf(live(0, 2, "", everyNumber(1)...)), "\x01\x00\x02\x40" + ones.String() + "\x00\x00"},
		// Paths of one name and of four.
		{named("a", aLeaf()), "\x01a\x00"}, {named("a/b.c", aLeaf(hi)), "\x05a/b.c\x01\x01\x03\x01\x00\x01\x00\x02hi"}, {named("-", aLeaf(dead(0, 1))), "\x01-\x01\x00\x01\x00\x01\x00"}, {named("abcdefghijkl/abcdefghijkl/abcdefghijkl/abcdefghijkl", aLeaf()), "\x33abcdefghijkl/abcdefghijkl/abcdefghijkl/abcdefghijkl\x00"},
	}
}

// everyNumber are the numbers of a dot of each peer, with one count.
func everyNumber(count int) []int {
	var numbers []int
	for _, d := range everyPeer(count) {
		numbers = append(numbers, d.Peer, d.Count)
	}
	return numbers
}

// put is what Done answers behind things that are put in a new Writer.
func put(things ...thing) (string, api.Errno) {
	var w coder.Writer
	for _, x := range things {
		putBy(&w, x)
	}
	return w.Done()
}

// 11.1, 11.3: each thing's bytes, as they are written down, put and alone; and what they are.
func TestTold(t *testing.T) {
	for _, c := range toldThings() {
		if s, err := put(c.x); s != c.s || err != api.OK {
			t.Errorf("%v is put as %q, %v", c.x, short(s), err)
		}
		if s, err := bytesBy(c.x); s != c.s || err != api.OK {
			t.Errorf("%v is %q, %v", c.x, short(s), err)
		}
		r := coder.New(c.s)
		if x := takeBy(r, c.x.kind); !same(x, c.x) || r.Done() != api.OK {
			t.Errorf("%q is taken as %v, %v", short(c.s), x, r.Done())
		}
		if x, err := thingBy(c.s, c.x.kind); !same(x, c.x) || err != api.OK {
			t.Errorf("%q is %v, %v", short(c.s), x, err)
		}
	}
}

// 11.1: things of all kinds that may be, alone and among other pieces.
func TestPutGood(t *testing.T) {
	for _, x := range goodThings() {
		want, wrong := bytesWords(x)
		if wrong != api.OK {
			t.Fatalf("%v may not be: %v", x, wrong)
		}
		if s, err := put(x); s != want || err != api.OK {
			t.Errorf("%v is %q, %v", x, short(s), err)
		}
		var w coder.Writer
		w.Number(300)
		putBy(&w, x)
		w.Text("ab")
		putBy(&w, x)
		if s, err := w.Done(); s != "\xac\x02"+want+"\x02ab"+want || err != api.OK {
			t.Errorf("%v among others: %q, %v", x, short(s), err)
		}
	}
}

// 11.1: of things that may not be nothing is put, of what stands ahead and behind neither, and the check's error is wrong.
func TestPutBroken(t *testing.T) {
	for _, c := range brokenThings() {
		if words := wrongWords(c.x); words != c.err {
			t.Fatalf("%v should be %v, by the words %v", c.x, c.err, words)
		}
		if s, err := put(c.x); s != "" || err != c.err {
			t.Errorf("%v: %q, %v, not %v", c.x, s, err, c.err)
		}
		var w coder.Writer
		w.Number(300)
		putBy(&w, c.x)
		if s, err := w.Done(); s != "" || err != c.err {
			t.Errorf("behind a number, %v: %q, %v, not %v", c.x, s, err, c.err)
		}
		for _, x := range []thing{aVector(list(0, 1)), aVector(list(64, 1)), aLeaf(), aLeaf(live(1, 0, "")), named("a", aLeaf()), named("A", aLeaf())} {
			putBy(&w, x)
			w.Flag(true)
			if s, err := w.Done(); s != "" || err != c.err {
				t.Errorf("behind %v, %v: %q, %v, not %v", c.x, x, s, err, c.err)
			}
		}
	}
}

// 11.1: of an entry with a wrong path and a wrong leaf the path's error is first; with a right path it is the leaf's.
func TestPutEntryPathFirst(t *testing.T) {
	for _, c := range brokenLeaves() {
		for _, p := range brokenPaths() {
			if s, err := put(named(p.path, c.x)); s != "" || err != p.err {
				t.Errorf("%v: %q, %v, not the path's %v", named(p.path, c.x), s, err, p.err)
			}
		}
		for _, path := range goodPaths() {
			if s, err := put(named(path, c.x)); s != "" || err != c.err {
				t.Errorf("%v: %q, %v, not the leaf's %v", named(path, c.x), s, err, c.err)
			}
		}
	}
}

// 11.1: a Writer that is wrong already keeps what was wrong first, and puts nothing, whatever is put.
func TestPutWrongWriter(t *testing.T) {
	things := goodThings()[:6]
	things = append(things, aLeaf(live(0, 1, "x")), named("a", aLeaf()), named("a/b", aLeaf(dead(3, 1))))
	for _, c := range brokenThings() {
		things = append(things, c.x)
	}
	for _, first := range errnos() {
		var w coder.Writer
		w.Text("ab")
		w.Fail(first)
		for _, x := range things {
			putBy(&w, x)
			if s, err := w.Done(); s != "" || err != first {
				t.Errorf("wrong by %v, %v: %q, %v", first, x, s, err)
			}
		}
	}
	var w coder.Writer
	w.Number(-1)
	PutVec(&w, list(64, 1))
	PutLeaf(&w, []api.Version{live(0, 0, "")})
	PutEntry(&w, api.Entry{Path: "A"})
	if s, err := w.Done(); s != "" || err != api.ErrSize {
		t.Errorf("behind a wrong number: %q, %v", s, err)
	}
}

// 11.1, R1: a nil Writer stays one, whatever is put.
func TestNilWriter(t *testing.T) {
	var w *coder.Writer
	for _, x := range goodThings() {
		putBy(w, x)
		if s, err := w.Done(); s != "" || err != api.ErrState {
			t.Errorf("%v: %q, %v", x, s, err)
		}
	}
	for _, c := range brokenThings() {
		putBy(w, c.x)
		if s, err := w.Done(); s != "" || err != api.ErrState {
			t.Errorf("%v: %q, %v", c.x, s, err)
		}
	}
}

// holdTaken holds what is taken of a text against the words, and that what is taken is put as it stood there.
func holdTaken(t *testing.T, s, kind string) api.Errno {
	t.Helper()
	r, m := coder.New(s), &reading{left: s}
	got, want := takeBy(r, kind), m.take(kind)
	if !same(got, want) || r.Err() != m.err || r.Left() != len(m.left) {
		t.Fatalf("%s of %q: %v, %v, %d are left, not %v, %v, %d", kind, short(s), got, r.Err(), r.Left(), want, m.err, len(m.left))
	}
	if m.err == api.OK {
		if again, err := put(got); err != api.OK || again != s[:len(s)-len(m.left)] {
			t.Fatalf("%s of %q is put as %q, %v", kind, short(s), short(again), err)
		}
		if m.left != "" {
			m.err, want = api.ErrMore, thing{kind: kind}
		}
	}
	if x, err := thingBy(s, kind); !same(x, want) || err != m.err {
		t.Fatalf("%s that %q is: %v, %v, not %v, %v", kind, short(s), x, err, want, m.err)
	}
	return m.err
}

// wrongRow is a text of which nothing can be taken, and why.
type wrongRow struct {
	kind, s string
	err     api.Errno
}

// holdWrong holds that nothing is taken of texts, with nothing behind and with more, as far as that can't change it.
func holdWrong(t *testing.T, rows []wrongRow) {
	t.Helper()
	for _, c := range rows {
		for _, behind := range []string{"", "\x00", "\x02", "\x01\x00\x01\x00\x00\x00"} {
			if behind != "" && c.err == api.ErrShort {
				continue
			}
			r := coder.New(c.s + behind)
			if x := takeBy(r, c.kind); !same(x, thing{kind: c.kind}) || r.Err() != c.err || r.Done() != c.err {
				t.Errorf("%s of %q: %v, %v, not %v", c.kind, short(c.s+behind), x, r.Err(), c.err)
			}
			if x, err := thingBy(c.s+behind, c.kind); !same(x, thing{kind: c.kind}) || err != c.err {
				t.Errorf("%s that %q is: %v, %v, not %v", c.kind, short(c.s+behind), x, err, c.err)
			}
			holdTaken(t, c.s+behind, c.kind)
		}
	}
}

// 11.2, 11.3: vectors' bytes that are wrong, written down.
func TestTakeVecWrong(t *testing.T) {
	holdWrong(t, []wrongRow{
		// It ends too early: ahead of how many, of a peer, of a count, and within them.
		{vector, "", api.ErrShort}, {vector, "\x80", api.ErrShort}, {vector, "\x01", api.ErrShort}, {vector, "\x01\x80", api.ErrShort}, {vector, "\x01\x00", api.ErrShort}, {vector, "\x01\x00\x80", api.ErrShort}, {vector, "\x02\x00\x01", api.ErrShort}, {vector, "\x02\x00\x01\x01", api.ErrShort}, {vector, "\x40", api.ErrShort},
		// A number that is not in its form.
		{vector, "\x80\x00", api.ErrForm}, {vector, "\x81\x00\x00\x01", api.ErrForm}, {vector, "\x01\x80\x00\x01", api.ErrForm}, {vector, "\x01\x00\x81\x00", api.ErrForm}, {vector, "\x02\x00\x01\x81\x00\x01", api.ErrForm},
		// Above what it may be at most.
		{vector, "\x41", api.ErrSize}, {vector, "\x41\x80\x00", api.ErrSize}, {vector, "\xff\xff\xff\xff\xff", api.ErrSize}, {vector, "\x80\x01", api.ErrSize}, {vector, "\x01\x40\x01", api.ErrSize}, {vector, "\x01\x80\x01\x01", api.ErrSize}, {vector, "\x01\x00\x81\x80\x40", api.ErrSize}, {vector, "\x01\x00\x80\x80\x80\x80\x04", api.ErrSize}, {vector, "\x01\x00\xff\xff\xff\xff\x7f", api.ErrSize}, {vector, "\x02\x00\x01\x40", api.ErrSize},
		// It is read, and may not be.
		{vector, "\x01\x00\x00", api.ErrCount}, {vector, "\x02\x00\x01\x01\x00", api.ErrCount}, {vector, "\x02\x01\x00\x00\x01", api.ErrCount}, {vector, "\x02\x01\x01\x01\x01", api.ErrOrder}, {vector, "\x02\x01\x01\x00\x01", api.ErrOrder}, {vector, "\x03\x01\x01\x00\x01\x02\x00", api.ErrOrder}, {vector, "\x02\x01\x01\x01\x00", api.ErrCount},
		// What may not be ahead is told behind all that is read.
		{vector, "\x02\x00\x00\x01", api.ErrShort}, {vector, "\x02\x00\x00\x40", api.ErrSize}, {vector, "\x02\x00\x00\x80\x00", api.ErrForm}, {vector, "\x03\x01\x01\x00\x01", api.ErrShort},
	})
}

// 11.2, 11.3: leaves' bytes that are wrong, written down.
func TestTakeLeafWrong(t *testing.T) {
	const x, y = "\x00\x01\x00\x00\x01x", "\x01\x01\x00\x00\x01y" // versions
	long := strings.Repeat("d", 49)
	holdWrong(t, []wrongRow{
		// It ends too early, at each place.
		{leaf, "", api.ErrShort}, {leaf, "\x80", api.ErrShort}, {leaf, "\x01", api.ErrShort}, {leaf, "\x01\x00", api.ErrShort}, {leaf, "\x01\x00\x01", api.ErrShort}, {leaf, "\x01\x00\x01\x01", api.ErrShort}, {leaf, "\x01\x00\x01\x01\x05", api.ErrShort}, {leaf, "\x01\x00\x01\x00", api.ErrShort}, {leaf, "\x01\x00\x01\x00\x00", api.ErrShort}, {leaf, "\x01\x00\x01\x00\x00\x80", api.ErrShort}, {leaf, "\x01\x00\x01\x00\x00\x01", api.ErrShort}, {leaf, "\x01\x00\x01\x00\x00\x30" + long[:47], api.ErrShort}, {leaf, "\x02" + x, api.ErrShort}, {leaf, "\x02" + x + y[:5], api.ErrShort},
		// A number that is not in its form, or above what it may be at most; a flag of another byte.
		{leaf, "\x80\x00", api.ErrForm}, {leaf, "\x01\x80\x00", api.ErrForm}, {leaf, "\x01\x00\x81\x00", api.ErrForm}, {leaf, "\x01\x00\x01\x80\x00", api.ErrForm}, {leaf, "\x01\x00\x01\x01\x81\x00\x01", api.ErrForm}, {leaf, "\x01\x00\x01\x00\x00\x80\x00", api.ErrForm},
		{leaf, "\x41", api.ErrSize}, {leaf, "\x01\x40", api.ErrSize}, {leaf, "\x01\x00\x81\x80\x40", api.ErrSize}, {leaf, "\x01\x00\x01\x41", api.ErrSize}, {leaf, "\x01\x00\x01\x01\x40", api.ErrSize}, {leaf, "\x01\x00\x01\x01\x01\x81\x80\x40", api.ErrSize}, {leaf, "\x01\x00\x01\x00\x00\x31" + long, api.ErrSize}, {leaf, "\x01\x00\x01\x00\x00\x31", api.ErrSize}, {leaf, "\x02" + x + "\x01\x01\x00\x00\x31" + long, api.ErrSize},
		{leaf, "\x01\x00\x01\x00\x02", api.ErrForm}, {leaf, "\x01\x00\x01\x00\xff\x00", api.ErrForm}, {leaf, "\x01\x00\x01\x00\x81\x00", api.ErrForm}, {leaf, "\x02" + x + "\x01\x01\x00\x02", api.ErrForm},
		// It is read, and may not be: a count, the order, a Dot in its Past, Dead with data, one that covers another one.
		{leaf, "\x01\x00\x00\x00\x00\x00", api.ErrCount}, {leaf, "\x02" + y + x, api.ErrOrder}, {leaf, "\x02" + x + x, api.ErrOrder}, {leaf, "\x01\x00\x01\x01\x00\x01\x00\x00", api.ErrOrder}, {leaf, "\x01\x00\x01\x00\x01\x01x", api.ErrForm}, {leaf, "\x02" + x + "\x01\x01\x01\x00\x01\x00\x00", api.ErrForm}, {leaf, "\x02\x00\x01\x01\x01\x01\x00\x00" + y, api.ErrForm},
		// A Past that is none is told ahead of what stands behind it, and of what is asked of the leaf.
		{leaf, "\x01\x00\x00\x02\x01\x01\x01\x01\x00\x00", api.ErrOrder}, {leaf, "\x01\x00\x00\x02\x01\x01\x01\x01\x02", api.ErrOrder}, {leaf, "\x01\x00\x01\x01\x05\x00", api.ErrCount}, {leaf, "\x01\x00\x01\x01\x05\x00\x02", api.ErrCount}, {leaf, "\x02" + y + "\x00\x01\x01\x05\x00\x00\x00", api.ErrCount}, {leaf, "\x02\x00\x00\x00\x00\x00\x01\x01\x02\x03\x01\x02\x01", api.ErrOrder}, {leaf, "\x02\x00\x01\x00\x01\x01x\x01\x01\x01\x05\x00", api.ErrCount},
		// What is asked of the leaf is told behind all that is read.
		{leaf, "\x01\x00\x00\x00\x02", api.ErrForm}, {leaf, "\x01\x00\x00\x00\x00\x31", api.ErrSize}, {leaf, "\x02\x00\x00\x00\x00\x00", api.ErrShort}, {leaf, "\x02\x00\x00\x00\x00\x00\x40", api.ErrSize}, {leaf, "\x02" + y + "\x00\x01\x00\x02", api.ErrForm}, {leaf, "\x03" + y + x + "\x02", api.ErrShort},
	})
}

// 11.2: entries' bytes that are wrong, written down.
func TestTakeEntryWrong(t *testing.T) {
	const none, x = "\x00", "\x01\x00\x01\x00\x00\x01x" // leaves
	rows := []wrongRow{
		{entry, "", api.ErrShort}, {entry, "\x80", api.ErrShort}, {entry, "\x01", api.ErrShort}, {entry, "\x05a/b.", api.ErrShort}, {entry, "\x01a", api.ErrShort}, {entry, "\x01a\x80", api.ErrShort}, {entry, "\x01a" + x[:6], api.ErrShort}, {entry, "\x33", api.ErrShort},
		{entry, "\x80\x00", api.ErrForm}, {entry, "\x81\x00a", api.ErrForm}, {entry, "\x01a\x80\x00", api.ErrForm}, {entry, "\x34", api.ErrSize}, {entry, "\x34" + strings.Repeat("a", 52), api.ErrSize}, {entry, "\x80\x80\x80\x80\x04", api.ErrSize}, {entry, "\x01a\x41", api.ErrSize}, {entry, "\x01a\x01\x40", api.ErrSize},
		{entry, "\x00" + none, api.ErrPath}, {entry, "\x01A" + none, api.ErrPath}, {entry, "\x01/" + x, api.ErrPath}, {entry, "\x04a//b" + x, api.ErrPath}, {entry, "\x33" + strings.Repeat("a", 51) + none, api.ErrPath},
		{entry, "\x01a\x01\x00\x00\x00\x00\x00", api.ErrCount}, {entry, "\x01a\x02\x00\x01\x00\x00\x00\x00\x01\x00\x00\x00", api.ErrOrder}, {entry, "\x01a\x01\x00\x01\x00\x01\x01x", api.ErrForm},
		// The path is asked ahead of the leaf's first byte.
		{entry, "\x00", api.ErrPath}, {entry, "\x01A", api.ErrPath}, {entry, "\x01A\x41", api.ErrPath}, {entry, "\x01A\x80\x00", api.ErrPath}, {entry, "\x01A\x01\x00\x00\x00\x00\x00", api.ErrPath}, {entry, "\x02..\x01\x00\x01\x00\x02", api.ErrPath},
	}
	for _, p := range brokenPaths() {
		if len(p.path) <= api.MaxText {
			s := text(p.path, mostPath).s
			rows = append(rows, wrongRow{entry, s, p.err}, wrongRow{entry, s + none, p.err}, wrongRow{entry, s + x, p.err}, wrongRow{entry, s + "\x41", p.err})
		}
	}
	holdWrong(t, rows)
}

// wrongPart is what may stand in place of a part, and what is wrong then; nothing may stand behind what is short.
type wrongPart struct {
	s   string
	err api.Errno
}

// wrongParts are what may stand in place of a part.
func wrongParts(p part) []wrongPart {
	all := []wrongPart{{"", api.ErrShort}}
	if p.what == "flag" {
		return append(all, wrongPart{"\x02", api.ErrForm}, wrongPart{"\x80", api.ErrForm}, wrongPart{"\xff", api.ErrForm}, wrongPart{"\x81\x00", api.ErrForm})
	}
	above := number(p.most+1, p.most).s
	all = append(all, wrongPart{"\x80", api.ErrShort}, wrongPart{"\xff\xff\xff\xff", api.ErrShort}, wrongPart{"\x80\x00", api.ErrForm}, wrongPart{"\x83\x80\x00", api.ErrForm}, wrongPart{above, api.ErrSize}, wrongPart{number(api.MaxNumber, p.most).s, api.ErrSize}, wrongPart{"\x80\x80\x80\x80\x80", api.ErrSize}, wrongPart{"\xff\xff\xff\xff\x7f", api.ErrSize})
	if p.what == "text" {
		all = append(all, wrongPart{p.s[:len(p.s)-1], api.ErrShort}, wrongPart{text(strings.Repeat("a", p.most), p.most).s[:p.most], api.ErrShort}, wrongPart{above + strings.Repeat("a", p.most+1), api.ErrSize})
	}
	return all
}

// 11.2: in place of each part of each thing, each that is wrong; what stands behind it can't change that, and nothing is answered.
func TestTakeEachPart(t *testing.T) {
	for _, x := range goodThings() {
		parts := partsOf(x)
		step := 1 + len(parts)/50
		for i := 0; i < len(parts); i += step {
			ahead, behind := together(parts[:i]), together(parts[i+1:])
			for _, wrong := range wrongParts(parts[i]) {
				texts := []string{ahead + wrong.s}
				if wrong.err != api.ErrShort {
					texts = append(texts, ahead+wrong.s+behind, ahead+wrong.s+strings.Repeat("\x00", 70))
				}
				for _, s := range texts {
					r := coder.New(s)
					got := takeBy(r, x.kind)
					other, err := thingBy(s, x.kind)
					if none := (thing{kind: x.kind}); !same(got, none) || r.Err() != wrong.err || !same(other, none) || err != wrong.err {
						t.Fatalf("%v, in place of the part %d (%s) %q: %v, %v and %v, %v, not %v", x, i, parts[i].what, wrong.s, got, r.Err(), other, err, wrong.err)
					}
				}
			}
		}
	}
}

// 11.2: things that are cut anywhere are short, and nothing is answered.
func TestTakeCut(t *testing.T) {
	for _, x := range goodThings() {
		s := together(partsOf(x))
		step := 1 + len(s)/400
		for length := 0; length < len(s); length += step {
			r := coder.New(s[:length])
			if got := takeBy(r, x.kind); !same(got, thing{kind: x.kind}) || r.Err() != api.ErrShort {
				t.Fatalf("%v, cut behind %d bytes of %d: %v, %v", x, length, len(s), got, r.Err())
			}
		}
	}
}

// 11.2, 11.3: bytes that are read as things that may not be. (Numbers that have no bytes can't be written so.)
func TestTakeBroken(t *testing.T) {
	met := map[api.Errno]int{}
	for _, c := range brokenThings() {
		dots := slices.Clone(c.x.dots)
		for _, v := range c.x.versions {
			dots = append(append(dots, v.Dot), v.Past...)
		}
		below := func(d api.Dot) bool { return d.Peer < 0 || d.Count < 0 }
		if slices.ContainsFunc(dots, below) {
			continue
		}
		s := together(partsOf(c.x))
		err := holdTaken(t, s, c.x.kind)
		if err == api.OK || err == api.ErrMore {
			t.Errorf("%v is taken of its bytes", c.x)
		}
		met[err]++
	}
	for _, err := range []api.Errno{api.ErrSize, api.ErrCount, api.ErrOrder, api.ErrForm, api.ErrPath} {
		if met[err] < 5 {
			t.Errorf("only %d come to %v", met[err], err)
		}
	}
}

// 11.2: what stands behind is left for the next read, and is not asked for.
func TestTakeLeaves(t *testing.T) {
	for _, x := range goodThings() {
		s := together(partsOf(x))
		for _, behind := range []string{"\x00", "\xff", "\x02ab", s} {
			r := coder.New(s + behind)
			if got := takeBy(r, x.kind); !same(got, x) || r.Err() != api.OK || r.Left() != len(behind) || r.Done() != api.ErrMore {
				t.Errorf("%v ahead of %q: %v, %v, %d are left", x, short(behind), got, r.Err(), r.Left())
			}
		}
		r := coder.New("\xac\x02" + s + "\x02ab")
		if r.Number(300) != 300 || !same(takeBy(r, x.kind), x) || r.Text(2) != "ab" || r.Done() != api.OK {
			t.Errorf("%v among others: %v", x, r.Done())
		}
	}
}

// 11.2: of a Reader that is wrong already nothing is taken, and what was wrong first is kept.
func TestTakeWrongReader(t *testing.T) {
	texts := []string{"", "\x00", "\x01\x00\x01", "\x41", "\x80\x00", "\x01\x00\x00", "\x01A\x00"}
	for _, c := range toldThings() {
		texts = append(texts, c.s)
	}
	for _, s := range texts {
		for _, first := range errnos() {
			r := coder.New(s)
			r.Fail(first)
			for _, kind := range []string{vector, leaf, entry, vector} {
				if x := takeBy(r, kind); !same(x, thing{kind: kind}) || r.Err() != first || r.Left() != len(s) {
					t.Errorf("%s of %q, wrong by %v: %v, %v, %d are left", kind, short(s), first, x, r.Err(), r.Left())
				}
			}
		}
		for _, kind := range []string{vector, leaf, entry} {
			r := coder.New("\x02" + s)
			r.Flag()
			if x := takeBy(r, kind); !same(x, thing{kind: kind}) || r.Err() != api.ErrForm || r.Left() != len(s)+1 {
				t.Errorf("%s of %q behind a wrong flag: %v, %v, %d are left", kind, short(s), x, r.Err(), r.Left())
			}
		}
	}
}

// 11.2: behind a read that came to an error the next ones take nothing, and it is kept.
func TestTakeBehindError(t *testing.T) {
	for _, c := range []wrongRow{{vector, "\x01\x00\x00", api.ErrCount}, {vector, "\x41", api.ErrSize}, {leaf, "\x01\x00\x01\x00\x02", api.ErrForm}, {leaf, "\x02\x01\x01\x00\x00\x00\x00\x01\x00\x00\x00", api.ErrOrder}, {entry, "\x01A\x00", api.ErrPath}, {entry, "\x01a\x01\x00\x00\x00\x00\x00", api.ErrCount}} {
		r := coder.New(c.s + strings.Repeat("\x00", 90))
		takeBy(r, c.kind)
		left := r.Left()
		for _, kind := range []string{vector, leaf, entry, vector} {
			if x := takeBy(r, kind); !same(x, thing{kind: kind}) || r.Err() != c.err || r.Left() != left {
				t.Errorf("%s behind %q: %v, %v", kind, c.s, x, r.Err())
			}
		}
	}
}

// 11.2, R1: of a nil Reader nothing is taken.
func TestNilReader(t *testing.T) {
	var r *coder.Reader
	for _, kind := range []string{vector, leaf, entry} {
		if x := takeBy(r, kind); !same(x, thing{kind: kind}) || r.Err() != api.ErrState || r.Left() != 0 {
			t.Errorf("%s: %v, %v", kind, x, r.Err())
		}
	}
}

// textsOf are all texts of up to so many bytes of a few.
func textsOf(signs string, most int) []string {
	texts, row := []string{""}, []string{""}
	for range most {
		var longer []string
		for _, s := range row {
			for i := range len(signs) {
				longer = append(longer, s+signs[i:i+1])
			}
		}
		texts, row = append(texts, longer...), longer
	}
	return texts
}

// holdMet holds that each of these errors was met often.
func holdMet(t *testing.T, met map[api.Errno]int, least int, errs ...api.Errno) {
	t.Helper()
	for _, err := range errs {
		if met[err] < least {
			t.Errorf("only %d come to %v", met[err], err)
		}
	}
}

// 11.2, 11.4: all texts of a few bytes, against the words; what is read of them is what they are.
func TestTakeSmall(t *testing.T) {
	met := map[api.Errno]int{}
	for _, s := range textsOf("\x00\x01\x02\x3f\x40\x80", 6) {
		met[holdTaken(t, s, vector)]++
	}
	holdMet(t, met, 50, api.OK, api.ErrMore, api.ErrShort, api.ErrSize, api.ErrForm, api.ErrCount, api.ErrOrder)
	clear(met)
	for _, s := range textsOf("\x00\x01\x02\x80", 7) {
		met[holdTaken(t, s, leaf)]++
		met[holdTaken(t, "\x01a"+s, entry)]++
	}
	for _, s := range textsOf("\x00\x01\x02", 10) {
		met[holdTaken(t, "\x02\x00"+s, leaf)]++
	}
	for _, s := range textsOf("\x00\x01\x02/a", 6) {
		met[holdTaken(t, s, entry)]++
	}
	holdMet(t, met, 8, api.OK, api.ErrMore, api.ErrShort, api.ErrForm, api.ErrCount, api.ErrOrder, api.ErrPath, api.ErrSize)
}

// bent are a thing's bytes, changed by a few draws.
func bent(draw *rand.Rand, s string) string {
	const edge = "\x00\x01\x02\x3f\x40\x41\x80\x81\xff"
	bytes := []byte(s)
	for range draw.Intn(3) {
		at, sign := draw.Intn(len(bytes)+1), edge[draw.Intn(len(edge))]
		switch draw.Intn(4) {
		case 0:
			bytes = bytes[:at]
		case 1:
			bytes = slices.Insert(bytes, at, sign)
		case 2:
			bytes = slices.Delete(bytes, max(0, at-1), at)
		default:
			if at < len(bytes) {
				bytes[at] = sign
			}
		}
	}
	return string(bytes)
}

// 11.2, 11.4: bytes of drawn things, as they are and changed, against the words.
func TestTakeDrawn(t *testing.T) {
	draw := rand.New(rand.NewSource(112))
	met := map[api.Errno]int{}
	for range 6000 {
		x := drawnThing(draw)
		s, err := bytesWords(x)
		if err != api.OK {
			t.Fatalf("%v is drawn: %v", x, err)
		}
		met[holdTaken(t, bent(draw, s), x.kind)]++
		met[holdTaken(t, bent(draw, s), drawnThing(draw).kind)]++
	}
	holdMet(t, met, 20, api.OK, api.ErrMore, api.ErrShort, api.ErrForm, api.ErrSize, api.ErrCount, api.ErrOrder, api.ErrPath)
}

// 11.3: Vec and Leaf, VecOf and LeafOf: of things that may not be nothing, and the check's error.
func TestAloneBroken(t *testing.T) {
	for _, c := range brokenVectors() {
		if s, err := Vec(c.x.dots); s != "" || err != c.err {
			t.Errorf("%v: %q, %v, not %v", c.x, s, err, c.err)
		}
	}
	for _, c := range brokenLeaves() {
		if s, err := Leaf(c.x.versions); s != "" || err != c.err {
			t.Errorf("%v: %q, %v, not %v", c.x, s, err, c.err)
		}
	}
}

// 11.3: bytes behind the end are ErrMore, and nothing is answered; what is wrong ahead of the end is told first.
func TestOfMore(t *testing.T) {
	for _, x := range goodThings() {
		if x.kind == entry {
			continue
		}
		s, _ := bytesWords(x)
		for _, behind := range []string{"\x00", "\x01", "\x80", "\xff", "x", s, strings.Repeat("\x00", 1000)} {
			if got, err := thingBy(s+behind, x.kind); !same(got, thing{kind: x.kind}) || err != api.ErrMore {
				t.Errorf("%v ahead of %q: %v, %v", x, short(behind), got, err)
			}
		}
	}
	holdWrong(t, []wrongRow{{vector, "\x01\x00\x00\x00", api.ErrCount}, {vector, "\x02\x01\x01\x01\x01more", api.ErrOrder}, {leaf, "\x01\x00\x00\x00\x00\x00\x00", api.ErrCount}, {leaf, "\x01\x00\x01\x00\x01\x01xmore", api.ErrForm}})
}

// holdAgain holds that things that are put one behind the other are taken again, and nothing is left.
func holdAgain(t *testing.T, things []thing) {
	t.Helper()
	s, err := put(things...)
	if err != api.OK {
		t.Fatalf("%v: %v", things, err)
	}
	r := coder.New(s)
	for i, x := range things {
		if got := takeBy(r, x.kind); !same(got, x) || r.Err() != api.OK {
			t.Fatalf("at %d, %v is taken as %v, %v", i, x, got, r.Err())
		}
	}
	if r.Left() != 0 || r.Done() != api.OK {
		t.Fatalf("%d are left, %v", r.Left(), r.Done())
	}
}

// 11.4: what is put is taken again: each by itself, each two, all at once, and drawn ones.
func TestPutIsTaken(t *testing.T) {
	all := goodThings()
	holdAgain(t, nil)
	holdAgain(t, all)
	for _, x := range all {
		holdAgain(t, []thing{x})
		if s, _ := bytesBy(x); x.kind != entry {
			if got, err := thingBy(s, x.kind); !same(got, x) || err != api.OK {
				t.Errorf("%v is read as %v, %v", x, got, err)
			}
		}
		for _, y := range all {
			holdAgain(t, []thing{x, y})
		}
	}
	draw := rand.New(rand.NewSource(114))
	for range 1000 {
		var things []thing
		for range draw.Intn(5) {
			things = append(things, drawnThing(draw))
		}
		holdAgain(t, things)
	}
}

// 11.4: unlike things of a kind have unlike bytes: all vectors of four peers with counts up to three, and leaves on them.
func TestUnlikeBytes(t *testing.T) {
	met := map[string]string{}
	hold := func(x thing) {
		s, err := bytesBy(x)
		if ahead, is := met[x.kind+s]; err != api.OK || is && ahead != x.String() {
			t.Errorf("%v is %q, %v, as is %s", x, s, err, ahead)
		}
		met[x.kind+s] = x.String()
	}
	for code := range 256 {
		var v []api.Dot
		for peer := range 4 {
			if count := code >> (2 * peer) & 3; count > 0 {
				v = append(v, dot(peer*21, count))
			}
		}
		hold(aVector(v))
		for _, of := range []api.Version{{}, {Dead: true}, {Data: "\x00"}, {Data: "\x01\x00"}} {
			of.Dot, of.Past = dot(5, 7), v
			hold(aLeaf(of))
			of.Dot = dot(6, 7)
			hold(aLeaf(of))
			hold(aLeaf(live(2, 4, ""), of))
		}
	}
	if len(met) != 256+256*12 {
		t.Errorf("%d rows of bytes", len(met))
	}
}

// copyOf is a thing that shares no memory with another one.
func copyOf(x thing) thing {
	x.dots = slices.Clone(x.dots)
	x.versions = slices.Clone(x.versions)
	for i := range x.versions {
		x.versions[i].Past = slices.Clone(x.versions[i].Past)
	}
	return x
}

// roomy is a thing whose lists have room behind their ends, with odd things there.
func roomy(x thing) thing {
	odd := api.Dot{Peer: 77, Count: 77}
	dots := func(v []api.Dot) []api.Dot {
		return append(slices.Clone(v), odd, odd)[:len(v)]
	}
	x.dots = dots(x.dots)
	x.versions = append(slices.Clone(x.versions), api.Version{Dot: odd, Data: "odd"})[:len(x.versions)]
	for i := range x.versions {
		x.versions[i].Past = dots(x.versions[i].Past)
	}
	return x
}

// behindEnds tells whether what stands behind the ends of a roomy thing's lists is there still.
func behindEnds(x thing) bool {
	odd := api.Dot{Peer: 77, Count: 77}
	dots := func(v []api.Dot) bool {
		v = v[:len(v)+2]
		return v[len(v)-2] == odd && v[len(v)-1] == odd
	}
	is := dots(x.dots) && sameVersion(x.versions[:len(x.versions)+1][len(x.versions)], api.Version{Dot: odd, Data: "odd"})
	for _, v := range x.versions {
		is = is && dots(v.Past)
	}
	return is
}

// scribble writes over all that a thing's lists have, up to their capacity.
func scribble(x thing) {
	for _, v := range x.versions {
		past := v.Past[:cap(v.Past)]
		for i := range past {
			past[i] = dot(1, 1000)
		}
	}
	dots, versions := x.dots[:cap(x.dots)], x.versions[:cap(x.versions)]
	for i := range dots {
		dots[i] = dot(2, 2000)
	}
	for i := range versions {
		versions[i] = live(3, 3000, "over")
	}
}

// R4: what is put is not changed, nor what lies behind its lists' ends, and is not kept: written over behind the call, it is put as it was.
func TestHandedIn(t *testing.T) {
	all := goodThings()
	for _, c := range brokenThings() {
		all = append(all, c.x)
	}
	for _, given := range all {
		x := roomy(given)
		before := copyOf(x)
		var w coder.Writer
		putBy(&w, x)
		if !same(x, before) || !behindEnds(x) {
			t.Errorf("%v was changed: %v", before, x)
		}
		if bytesBy(x); !same(x, before) || !behindEnds(x) {
			t.Errorf("%v was changed alone: %v", before, x)
		}
		scribble(x)
		s, err := w.Done()
		if want, wrong := bytesWords(before); s != want || err != wrong {
			t.Errorf("%v is kept: %q, %v", before, short(s), err)
		}
	}
}

// R4: what is taken is new memory: written over, it changes neither what is taken again nor another list of the same answer.
func TestHandedOut(t *testing.T) {
	for _, want := range goodThings() {
		s := together(partsOf(want))
		r := coder.New(s + s)
		first := takeBy(r, want.kind)
		second := takeBy(r, want.kind)
		scribble(first)
		third, _ := thingBy(s, want.kind)
		if !same(second, want) || !same(third, want) {
			t.Errorf("%v is %v and %v, when another one was written over", want, second, third)
		}
		for i, v := range second.versions {
			rest := copyOf(second)
			scribble(aVector(v.Past))
			second.versions[i], rest.versions[i] = api.Version{}, api.Version{}
			if !same(second, rest) {
				t.Errorf("%v: the Past of %d is another one's, too", want, i)
			}
		}
	}
}

// R1, R5: many things come to an end soon, and the same of them at once to the same.
func TestManyAtOnce(t *testing.T) {
	all := goodThings()
	var want strings.Builder
	for _, x := range all {
		want.WriteString(together(partsOf(x)))
	}
	var each sync.WaitGroup
	for range 4 {
		each.Go(func() {
			for range 20 {
				s, err := put(all...)
				if s != want.String() || err != api.OK {
					t.Errorf("something else: %v", err)
				}
				r := coder.New(want.String())
				for _, x := range all {
					if !same(takeBy(r, x.kind), x) {
						t.Errorf("something else than %v: %v", x, r.Err())
					}
				}
			}
		})
	}
	each.Wait()
}

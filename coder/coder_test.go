package coder

import (
	"math"
	"math/rand"
	"slices"
	"strings"
	"sync"
	"testing"

	"hearsay/api"
)

// 10.1: the chapter's example, and a zero Writer of which nothing was asked.
func TestWriterExample(t *testing.T) {
	var w Writer
	if s, err := w.Done(); s != "" || err != api.OK {
		t.Errorf("of nothing: %q, %v", s, err)
	}
	w.Number(300)
	w.Text("ab")
	w.Flag(true)
	if s, err := w.Done(); s != "\xac\x02\x02ab\x01" || err != api.OK {
		t.Errorf("the example is %q, %v", s, err)
	}
}

// 10.1: each piece's bytes, as they are written down.
func TestWriterTable(t *testing.T) {
	kinds := digests()[1]
	for _, c := range []struct {
		put  call
		want string
		err  api.Errno
	}{
		{number(0), "\x00", api.OK}, {number(1), "\x01", api.OK}, {number(127), "\x7f", api.OK}, {number(128), "\x80\x01", api.OK}, {number(300), "\xac\x02", api.OK}, {number(api.MaxNumber), "\x80\x80\x80\x80\x04", api.OK},
		{number(api.MaxNumber + 1), "", api.ErrSize}, {number(-1), "", api.ErrSize}, {number(math.MaxInt), "", api.ErrSize}, {number(math.MinInt), "", api.ErrSize}, {number(1 << 32), "", api.ErrSize},
		{text(""), "\x00", api.OK}, {text("ab"), "\x02ab", api.OK}, {text("\x00"), "\x01\x00", api.OK}, {text(allBytes()), "\x80\x02" + allBytes(), api.OK},
		{text(strings.Repeat("a", 127)), "\x7f" + strings.Repeat("a", 127), api.OK}, {text(strings.Repeat("a", 128)), "\x80\x01" + strings.Repeat("a", 128), api.OK},
		{text(strings.Repeat("a", api.MaxText)), "\x80\x80\x04" + strings.Repeat("a", api.MaxText), api.OK}, {text(strings.Repeat("a", api.MaxText+1)), "", api.ErrSize}, {text(strings.Repeat("a", 1<<20)), "", api.ErrSize},
		{flag(false), "\x00", api.OK}, {flag(true), "\x01", api.OK},
		{digest(api.Digest{}), strings.Repeat("\x00", 32), api.OK}, {digest(kinds), string(kinds[:]), api.OK},
		{fail(api.OK), "", api.OK}, {fail(api.ErrPath), "", api.ErrPath}, {fail(api.ErrLine), "", api.ErrLine},
	} {
		var w Writer
		putBy(&w, c.put)
		if s, err := w.Done(); s != c.want || err != c.err {
			t.Errorf("%v is %q, %v", c.put, short(s), err)
		}
	}
}

// 10.1: numbers and texts of all edges, one behind the other.
func TestWriterEdges(t *testing.T) {
	var calls []call
	for _, n := range goodNumbers() {
		calls = append(calls, number(n), flag(n%2 == 0))
	}
	for _, s := range goodTexts() {
		calls = append(calls, text(s), flag(true))
	}
	for _, d := range digests() {
		calls = append(calls, digest(d), fail(api.OK))
	}
	if s, err := written(t, calls...); s == "" || err != api.OK {
		t.Errorf("nothing of the edges: %v", err)
	}
}

// 10.1: what is wrong first is kept, wherever it stands, and then nothing more is put.
func TestWriterWrongFirst(t *testing.T) {
	wrong := []call{text(strings.Repeat("a", api.MaxText+1)), text(strings.Repeat("\x00", 1<<17))}
	for _, n := range badNumbers() {
		wrong = append(wrong, number(n))
	}
	for _, e := range errnos() {
		wrong = append(wrong, fail(e))
	}
	right := []call{number(5), text("ab"), flag(true), digest(digests()[1]), fail(api.OK)}
	for _, first := range wrong {
		_, want := bytesWords(first)
		for ahead := range len(right) + 1 {
			calls := slices.Concat(right[:ahead], []call{first}, right)
			if s, err := written(t, calls...); s != "" || err != want {
				t.Errorf("behind %v: %q, %v", first, s, err)
			}
		}
		for _, second := range wrong {
			if s, err := written(t, number(1), first, second, text("x"), first); s != "" || err != want {
				t.Errorf("behind %v and %v: %q, %v", first, second, s, err)
			}
		}
	}
}

// 10.1: Fail of OK is nothing, neither ahead of an error nor behind it.
func TestWriterFailOK(t *testing.T) {
	for _, c := range []struct {
		calls []call
		want  string
		err   api.Errno
	}{
		{[]call{fail(api.OK)}, "", api.OK},
		{[]call{number(7), fail(api.OK), number(8)}, "\x07\x08", api.OK},
		{[]call{fail(api.OK), fail(api.ErrSum), fail(api.OK)}, "", api.ErrSum},
		{[]call{fail(api.ErrSum), fail(api.OK), fail(api.ErrForm)}, "", api.ErrSum},
		{[]call{number(-1), fail(api.OK), number(1)}, "", api.ErrSize},
		{[]call{number(-1), fail(api.ErrSum)}, "", api.ErrSize},
		{[]call{fail(api.ErrSum), number(-1)}, "", api.ErrSum},
		{[]call{text("x"), fail(api.ErrState), text("x")}, "", api.ErrState},
	} {
		if s, err := written(t, c.calls...); s != c.want || err != c.err {
			t.Errorf("%v: %q, %v", c.calls, s, err)
		}
	}
}

// 10.1: Done may be asked at any time; more is put behind it, and what was answered stays.
func TestWriterDoneStays(t *testing.T) {
	var w Writer
	var told []string
	for i := range 200 {
		w.Number(i % 100)
		s, err := w.Done()
		if len(s) != i+1 || err != api.OK {
			t.Fatalf("%q, %v behind %d numbers", s, err, i+1)
		}
		told = append(told, s)
	}
	w.Fail(api.ErrFull)
	for i, s := range told {
		for at := range i + 1 {
			if int(s[at]) != at%100 {
				t.Fatalf("what was told behind %d numbers is now %q", i+1, s)
			}
		}
	}
}

// 10.1: drawn calls, against the words.
func TestWriterDrawn(t *testing.T) {
	r := rand.New(rand.NewSource(101))
	for range 3000 {
		var calls []call
		for range r.Intn(12) {
			c := drawnPut(r)
			if r.Intn(25) == 0 {
				c = number(badNumbers()[r.Intn(len(badNumbers()))])
			}
			if r.Intn(25) == 0 {
				c = fail(api.Errno(r.Intn(17)))
			}
			calls = append(calls, c)
		}
		written(t, calls...)
	}
}

// 10.1: behind an error nothing is kept of what was put, nor of what comes behind, as nobody is told of it.
func TestWriterKeepsNothing(t *testing.T) {
	for _, wrong := range []call{number(-1), text(strings.Repeat("a", api.MaxText+1)), fail(api.ErrSum)} {
		var w Writer
		for _, c := range []call{text("ab"), wrong, text("ab"), number(1), flag(true), digest(digests()[1])} {
			putBy(&w, c)
		}
		if len(w.put) != 0 {
			t.Errorf("behind %v: %d bytes", wrong, len(w.put))
		}
	}
}

// 10.1: two Writers have nothing in common.
func TestWritersAlone(t *testing.T) {
	var a, b Writer
	a.Text("a")
	b.Text("b")
	a.Number(1)
	b.Fail(api.ErrBusy)
	a.Flag(false)
	s, err := a.Done()
	other, errOther := b.Done()
	if s != "\x01a\x01\x00" || err != api.OK || other != "" || errOther != api.ErrBusy {
		t.Errorf("%q, %v beside %q, %v", s, err, other, errOther)
	}
}

// 10.1, R1: all calls of a nil Writer do nothing, and Done answers ErrState, whatever was called.
func TestNilWriter(t *testing.T) {
	var w *Writer
	for _, c := range []call{fail(api.OK), number(0), number(-1), number(math.MaxInt), text(""), text(strings.Repeat("a", api.MaxText+1)), flag(true), flag(false), digest(digests()[1]), fail(api.ErrSum)} {
		if s, err := w.Done(); s != "" || err != api.ErrState {
			t.Errorf("ahead of %v: %q, %v", c, s, err)
		}
		putBy(w, c)
		if s, err := w.Done(); s != "" || err != api.ErrState {
			t.Errorf("behind %v: %q, %v", c, s, err)
		}
	}
}

// 10.2: the chapter's example is taken again, and what is left behind each read.
func TestReaderExample(t *testing.T) {
	r := New("\xac\x02\x02ab\x01")
	if r.Left() != 6 || r.Err() != api.OK || r.Done() != api.ErrMore {
		t.Errorf("ahead: %d, %v, %v", r.Left(), r.Err(), r.Done())
	}
	if n := r.Number(300); n != 300 || r.Left() != 4 {
		t.Errorf("%d, and %d are left", n, r.Left())
	}
	if s := r.Text(2); s != "ab" || r.Left() != 1 {
		t.Errorf("%q, and %d are left", s, r.Left())
	}
	if !r.Flag() || r.Left() != 0 || r.Err() != api.OK || r.Done() != api.OK {
		t.Errorf("at the end: %d, %v, %v", r.Left(), r.Err(), r.Done())
	}
}

// row is a read: what is left ahead, and what it answers; or what is wrong.
type row struct {
	s    string
	take call
	want piece
	left int
	err  api.Errno
}

// holdRows holds reads against rows that are written down, and against the words.
func holdRows(t *testing.T, rows []row) {
	t.Helper()
	for _, c := range rows {
		r := New(c.s)
		if got := takeBy(r, c.take); got != c.want || r.Left() != c.left || r.Err() != c.err {
			t.Errorf("of %q: %v is %v, %d are left, %v", short(c.s), c.take, got, r.Left(), r.Err())
		}
		if c.err != api.OK && c.left != len(c.s) {
			t.Errorf("of %q something is taken", short(c.s)) // a row that is wrong itself
		}
		holdReads(t, c.s, c.take)
	}
}

// 10.2: numbers, with each error that Take has, at most and above.
func TestReaderNumber(t *testing.T) {
	n := func(n int) piece { return piece{n: n} }
	holdRows(t, []row{
		{"\x00", aNumber(0), n(0), 0, api.OK}, {"\x00\x00", aNumber(5), n(0), 1, api.OK}, {"\x7f\xff", aNumber(127), n(127), 1, api.OK}, {"\x80\x01", aNumber(128), n(128), 0, api.OK}, {"\xac\x02\x09", aNumber(math.MaxInt), n(300), 1, api.OK},
		{"\x80\x80\x80\x80\x04", aNumber(api.MaxNumber), n(api.MaxNumber), 0, api.OK}, {"\x80\x80\x80\x80\x04\x80", aNumber(math.MaxInt), n(api.MaxNumber), 1, api.OK},
		// It ends too early, it is not in its form, it is greater than any number.
		{"", aNumber(5), n(0), 0, api.ErrShort}, {"\x80", aNumber(5), n(0), 1, api.ErrShort}, {"\xff\xff\xff\xff", aNumber(5), n(0), 4, api.ErrShort},
		{"\x80\x00", aNumber(5), n(0), 2, api.ErrForm}, {"\xff\x80\x00\x01", aNumber(5), n(0), 4, api.ErrForm},
		{"\x80\x80\x80\x80\x80", aNumber(5), n(0), 5, api.ErrSize}, {"\x81\x80\x80\x80\x04", aNumber(math.MaxInt), n(0), 5, api.ErrSize}, {"\xff\xff\xff\xff\x7f\x01", aNumber(math.MaxInt), n(0), 6, api.ErrSize},
		// Above most.
		{"\x01", aNumber(1), n(1), 0, api.OK}, {"\x01", aNumber(0), n(0), 1, api.ErrSize}, {"\xac\x02", aNumber(299), n(0), 2, api.ErrSize}, {"\xac\x02", aNumber(300), n(300), 0, api.OK}, {"\x80\x80\x80\x80\x04", aNumber(api.MaxNumber - 1), n(0), 5, api.ErrSize},
		// Most below 0: none.
		{"\x00", aNumber(-1), n(0), 1, api.ErrSize}, {"\x00", aNumber(math.MinInt), n(0), 1, api.ErrSize}, {"\x07\x01", aNumber(-7), n(0), 2, api.ErrSize},
		// Take's errors go ahead of most.
		{"", aNumber(-1), n(0), 0, api.ErrShort}, {"\x80\x00", aNumber(-1), n(0), 2, api.ErrForm}, {"\xff", aNumber(math.MinInt), n(0), 1, api.ErrShort}, {"\xff\x00", aNumber(0), n(0), 2, api.ErrForm},
	})
	for _, n := range goodNumbers() {
		for _, most := range append(mosts(), n-1, n, n+1) {
			holdReads(t, numberBytes(n)+"behind", aNumber(most))
			holdReads(t, numberBytes(n), aNumber(most))
		}
	}
}

// 10.2: texts, whose length says more than is left, exactly what is left, and less; and is above most.
func TestReaderText(t *testing.T) {
	s := func(s string) piece { return piece{s: s} }
	full, more := strings.Repeat("a", api.MaxText), strings.Repeat("a", api.MaxText+1)
	holdRows(t, []row{
		{"\x00", aText(0), s(""), 0, api.OK}, {"\x00abc", aText(9), s(""), 3, api.OK}, {"\x02ab", aText(2), s("ab"), 0, api.OK}, {"\x02abc", aText(2), s("ab"), 1, api.OK}, {"\x02abc", aText(math.MaxInt), s("ab"), 1, api.OK}, {"\x03\x00\x80\xff", aText(3), s("\x00\x80\xff"), 0, api.OK}, {"\x80\x02" + allBytes() + "x", aText(256), s(allBytes()), 1, api.OK},
		// More than is left: the number ahead isn't taken either.
		{"\x05abc", aText(9), s(""), 4, api.ErrShort}, {"\x01", aText(1), s(""), 1, api.ErrShort}, {"\x03ab", aText(3), s(""), 3, api.ErrShort}, {"\x80\x01" + strings.Repeat("a", 127), aText(128), s(""), 129, api.ErrShort}, {"\x80\x80\x80\x80\x04abc", aText(math.MaxInt), s(""), 8, api.ErrShort},
		// Above most: that goes ahead of what is left.
		{"\x02ab", aText(1), s(""), 3, api.ErrSize}, {"\x02a", aText(1), s(""), 2, api.ErrSize}, {"\x05abc", aText(4), s(""), 4, api.ErrSize}, {"\x01a", aText(0), s(""), 2, api.ErrSize}, {"\x00", aText(-1), s(""), 1, api.ErrSize}, {"\x00ab", aText(math.MinInt), s(""), 3, api.ErrSize}, {"\x80\x80\x80\x80\x04", aText(api.MaxNumber - 1), s(""), 5, api.ErrSize},
		// The number's errors.
		{"", aText(9), s(""), 0, api.ErrShort}, {"\x80", aText(9), s(""), 1, api.ErrShort}, {"\x80\x00", aText(9), s(""), 2, api.ErrForm}, {"\x82\x00ab", aText(9), s(""), 4, api.ErrForm}, {"\xff\xff\xff\xff\xffabc", aText(math.MaxInt), s(""), 8, api.ErrSize}, {"\x81\x80\x80\x80\x04abc", aText(math.MaxInt), s(""), 8, api.ErrSize}, {"", aText(-1), s(""), 0, api.ErrShort}, {"\x82\x00ab", aText(-1), s(""), 4, api.ErrForm},
		// A Reader's texts have the limit that it is told, not the Writer's.
		{"\x80\x80\x04" + full, aText(api.MaxText), s(full), 0, api.OK}, {"\x80\x80\x04" + full, aText(api.MaxText - 1), s(""), api.MaxText + 3, api.ErrSize}, {"\x81\x80\x04" + more, aText(api.MaxFrame), s(more), 0, api.OK}, {"\x81\x80\x04" + more, aText(api.MaxText), s(""), api.MaxText + 4, api.ErrSize},
	})
	for length := range 40 {
		for left := range 42 {
			for _, most := range []int{-1, 0, length - 1, length, length + 1, math.MaxInt} {
				holdReads(t, numberBytes(length)+strings.Repeat("z", left), aText(most))
			}
		}
	}
}

// 10.2: flags, of nothing and of each byte.
func TestReaderFlag(t *testing.T) {
	is := func(is bool) piece { return piece{is: is} }
	holdRows(t, []row{
		{"", aFlag(), is(false), 0, api.ErrShort},
		{"\x00", aFlag(), is(false), 0, api.OK}, {"\x01", aFlag(), is(true), 0, api.OK}, {"\x01\x02", aFlag(), is(true), 1, api.OK}, {"\x00\xff", aFlag(), is(false), 1, api.OK},
		{"\x02", aFlag(), is(false), 1, api.ErrForm}, {"\xff", aFlag(), is(false), 1, api.ErrForm}, {"\x03\x01", aFlag(), is(false), 2, api.ErrForm}, {"\x80\x01", aFlag(), is(false), 2, api.ErrForm}, {"\x81", aFlag(), is(false), 1, api.ErrForm},
	})
	for b := range 256 {
		r := New(string([]byte{byte(b), 7}))
		got := r.Flag()
		if right := b < 2; got != (b == 1) || right != (r.Err() == api.OK) || !right && (r.Err() != api.ErrForm || r.Left() != 2) || right && r.Left() != 1 {
			t.Errorf("of the byte %d: %v, %v, %d", b, got, r.Err(), r.Left())
		}
	}
}

// 10.2: digests, of each number of bytes around theirs.
func TestReaderDigest(t *testing.T) {
	kinds := digests()[1]
	d := func(d api.Digest) piece { return piece{d: d} }
	s := string(kinds[:])
	holdRows(t, []row{
		{"", aDigest(), piece{}, 0, api.ErrShort}, {s[:1], aDigest(), piece{}, 1, api.ErrShort}, {s[1:], aDigest(), piece{}, 31, api.ErrShort}, {s[:31], aDigest(), piece{}, 31, api.ErrShort},
		{s, aDigest(), d(kinds), 0, api.OK}, {s + "x", aDigest(), d(kinds), 1, api.OK}, {s + s, aDigest(), d(kinds), 32, api.OK}, {strings.Repeat("\x00", 33), aDigest(), piece{}, 1, api.OK}, {strings.Repeat("\xff", 32), aDigest(), d(digests()[2]), 0, api.OK},
	})
	for length := range 70 {
		holdReads(t, strings.Repeat("q", length), aDigest(), aDigest(), aDigest())
	}
}

// wrongReads are texts, and a read each that comes to an error.
func wrongReads() []row {
	return []row{
		{s: "\x80", take: aNumber(9), err: api.ErrShort}, {s: "\x80\x00", take: aNumber(9), err: api.ErrForm}, {s: "\x05abcde", take: aNumber(4), err: api.ErrSize},
		{s: "\x05abc", take: aText(9), err: api.ErrShort}, {s: "\x01a", take: aText(0), err: api.ErrSize}, {s: "\x80\x00", take: aText(9), err: api.ErrForm},
		{s: "", take: aFlag(), err: api.ErrShort}, {s: "\x02ab", take: aFlag(), err: api.ErrForm}, {s: "\x01", take: aDigest(), err: api.ErrShort}, {s: "", take: aDigest(), err: api.ErrShort},
		{s: "\x01" + strings.Repeat("\x00", 40), take: fail(api.ErrSum), err: api.ErrSum}, {s: "", take: fail(api.ErrLine), err: api.ErrLine}, {s: "\x00", take: fail(api.Errno(-5)), err: api.Errno(-5)},
	}
}

// 10.2: behind an error reads answer zero values, what is left stays, and what is wrong first is kept.
func TestReaderBehindError(t *testing.T) {
	all := []call{aNumber(math.MaxInt), aNumber(-1), aText(math.MaxInt), aText(-1), aFlag(), aDigest(), fail(api.OK), fail(api.ErrState), fail(api.ErrShort)}
	for _, c := range wrongReads() {
		r := New(c.s)
		takeBy(r, c.take)
		for _, again := range slices.Concat(all, all) {
			if got := takeBy(r, again); got != (piece{}) {
				t.Errorf("of %q behind %v: %v is %v", c.s, c.take, again, got)
			}
			if r.Left() != len(c.s) || r.Err() != c.err || r.Done() != c.err {
				t.Errorf("of %q behind %v and %v: %d are left, %v, %v", c.s, c.take, again, r.Left(), r.Err(), r.Done())
			}
		}
	}
	// What would be right by itself is not taken behind an error, and what was taken ahead stays taken.
	s := "\x07\x02\x01\x01\x02ab" + strings.Repeat("d", 32)
	for _, wrong := range []call{aNumber(1), aText(1), aFlag(), fail(api.ErrKind)} {
		holdReads(t, s, slices.Concat([]call{aNumber(7), wrong}, all)...)
		if r := holdReads(t, s, aNumber(7), wrong); r.Left() != len(s)-1 || r.Err() == api.OK {
			t.Errorf("%v: %d are left, %v", wrong, r.Left(), r.Err())
		}
	}
}

// 10.2: Fail, of OK and of two errors, with bytes left and with none.
func TestReaderFail(t *testing.T) {
	for _, s := range []string{"", "\x01", "\x01\x02abc"} {
		r := New(s)
		r.Fail(api.OK)
		if r.Err() != api.OK || r.Left() != len(s) {
			t.Errorf("of %q: %v behind Fail of OK", s, r.Err())
		}
		for _, e := range errnos() {
			r := New(s)
			r.Fail(e)
			r.Fail(api.OK)
			if r.Err() != e || r.Done() != e || r.Left() != len(s) {
				t.Errorf("of %q: %v, %v behind Fail of %d", s, r.Err(), r.Done(), int(e))
			}
			for _, second := range errnos() {
				r.Fail(second)
				if r.Err() != e || r.Done() != e {
					t.Errorf("of %q: %v behind Fail of %d and %d", s, r.Err(), int(e), int(second))
				}
			}
		}
	}
}

// 10.2: Done with bytes left, with none left, and behind an error; it changes nothing itself.
func TestReaderDone(t *testing.T) {
	r := New("\x01\x01\x02")
	for _, want := range []int{2, 1} {
		if r.Done() != api.ErrMore || r.Done() != api.ErrMore || r.Err() != api.OK || !r.Flag() || r.Left() != want {
			t.Errorf("%v, %v, and %d are left", r.Done(), r.Err(), r.Left())
		}
	}
	if r.Done() != api.ErrMore || r.Flag() || r.Done() != api.ErrForm || r.Err() != api.ErrForm || r.Left() != 1 {
		t.Errorf("behind an error: %v, %v, and %d are left", r.Done(), r.Err(), r.Left())
	}
	r = New("\x01")
	if !r.Flag() || r.Done() != api.OK || r.Done() != api.OK || r.Err() != api.OK {
		t.Errorf("with none left: %v", r.Done())
	}
	if r.Flag() || r.Err() != api.ErrShort || r.Done() != api.ErrShort {
		t.Errorf("past the end: %v, %v", r.Err(), r.Done())
	}
	if r = New(""); r.Done() != api.OK || r.Err() != api.OK || r.Left() != 0 {
		t.Errorf("of no bytes: %v", r.Done())
	}
}

// 10.2: all rows of up to three reads, of all texts of up to four bytes of the edges, against the words.
func TestReaderSmall(t *testing.T) {
	const edge = "\x00\x01\x02\x80\xff"
	reads := []call{aNumber(1), aNumber(math.MaxInt), aText(1), aText(math.MaxInt), aFlag(), fail(api.ErrSum)}
	texts, row := []string{""}, []string{""}
	for range 4 {
		var longer []string
		for _, s := range row {
			for i := range len(edge) {
				longer = append(longer, s+edge[i:i+1])
			}
		}
		texts, row = append(texts, longer...), longer
	}
	for _, s := range texts {
		for _, a := range reads {
			for _, b := range reads {
				for _, c := range reads {
					holdReads(t, s, a, b, c)
				}
			}
		}
	}
}

// 10.2: drawn reads of drawn texts, against the words.
func TestReaderDrawn(t *testing.T) {
	r := rand.New(rand.NewSource(102))
	ends := map[api.Errno]int{}
	for range 100000 {
		s := drawnText(r, r.Intn(1+r.Intn(120)))
		var calls []call
		for range 1 + r.Intn(10) {
			calls = append(calls, drawnTake(r))
		}
		ends[holdReads(t, s, calls...).Done()]++
	}
	for _, err := range []api.Errno{api.OK, api.ErrMore, api.ErrShort, api.ErrSize, api.ErrForm, api.ErrKind} {
		if ends[err] < 50 {
			t.Errorf("only %d come to %v", ends[err], err)
		}
	}
}

// 10.2: two Readers of one text have nothing in common.
func TestReadersAlone(t *testing.T) {
	s := "\x01a\x01"
	a, b := New(s), New(s)
	if a.Text(1) != "a" || b.Left() != 3 || b.Number(0) != 0 || b.Err() != api.ErrSize || a.Err() != api.OK || !a.Flag() || a.Done() != api.OK {
		t.Errorf("%v and %v", a, b)
	}
	if New("") == New("") {
		t.Error("one Reader is handed out twice")
	}
}

// 10.2, R1: all calls of a nil Reader answer zero values and ErrState, whatever was called.
func TestNilReader(t *testing.T) {
	var r *Reader
	for _, c := range []call{fail(api.OK), aNumber(math.MaxInt), aNumber(-1), aText(math.MaxInt), aText(math.MinInt), aFlag(), aDigest(), fail(api.ErrSum)} {
		if r.Err() != api.ErrState || r.Done() != api.ErrState || r.Left() != 0 {
			t.Errorf("ahead of %v: %v, %v, %d", c, r.Err(), r.Done(), r.Left())
		}
		if got := takeBy(r, c); got != (piece{}) {
			t.Errorf("%v is %v", c, got)
		}
		if r.Err() != api.ErrState || r.Done() != api.ErrState || r.Left() != 0 {
			t.Errorf("behind %v: %v, %v, %d", c, r.Err(), r.Done(), r.Left())
		}
	}
}

// holdAgain holds that what is put is taken again, with just as much as it is at most, and nothing is left.
func holdAgain(t *testing.T, calls []call) {
	t.Helper()
	s, err := written(t, calls...)
	if err != api.OK {
		t.Fatalf("%v: %v", calls, err)
	}
	r := New(s)
	for i, c := range calls {
		want := piece{n: c.n, s: c.s, is: c.is, d: c.d}
		if c.what == "text" {
			c.n = len(c.s)
		}
		if got := takeBy(r, c); got != want || r.Err() != api.OK {
			t.Fatalf("%v, at %d: %v, %v", calls, i, got, r.Err())
		}
	}
	if r.Left() != 0 || r.Done() != api.OK {
		t.Fatalf("%v: %d are left, %v", calls, r.Left(), r.Done())
	}
}

// 10.3: what is put is taken again: each piece by itself, each two, and many that are drawn.
func TestPutIsTaken(t *testing.T) {
	var all []call
	for _, n := range goodNumbers() {
		all = append(all, number(n))
	}
	for _, s := range goodTexts() {
		all = append(all, text(s))
	}
	for _, d := range digests() {
		all = append(all, digest(d))
	}
	all = append(all, flag(false), flag(true))
	holdAgain(t, nil)
	holdAgain(t, all)
	for _, a := range all {
		holdAgain(t, []call{a})
		for _, b := range all {
			holdAgain(t, []call{a, b})
		}
	}
	r := rand.New(rand.NewSource(103))
	for range 3000 {
		var calls []call
		for range r.Intn(20) {
			calls = append(calls, drawnPut(r))
		}
		holdAgain(t, calls)
	}
}

// 10.3: of what is put and is cut, the last piece that is there in part is short, and none of it is taken.
func TestPutCutIsShort(t *testing.T) {
	calls := []call{number(300), text("ab"), flag(true), digest(digests()[1]), text(strings.Repeat("x", 130)), number(1 << 28)}
	s, _ := written(t, calls...)
	for length := range len(s) {
		r, taken := New(s[:length]), 0
		for _, c := range calls {
			if c.what == "text" {
				c.n = len(c.s)
			}
			ahead := r.Left()
			takeBy(r, c)
			if r.Err() != api.OK {
				if r.Err() != api.ErrShort || r.Left() != ahead {
					t.Errorf("cut behind %d bytes: %v is %v, and %d of %d are left", length, c, r.Err(), r.Left(), ahead)
				}
				break
			}
			taken++
		}
		if taken == len(calls) {
			t.Errorf("cut behind %d bytes, all is taken", length)
		}
	}
}

// R1, R5: many pieces come to an end soon, and many Writers and Readers at once to the same.
func TestManyAtOnce(t *testing.T) {
	const pieces = 200000
	var all sync.WaitGroup
	for range 4 {
		all.Go(func() {
			var w Writer
			for i := range pieces {
				w.Number(i)
				w.Text("abc")
			}
			s, err := w.Done()
			r := New(s)
			for i := range pieces {
				if r.Number(i) != i || r.Text(3) != "abc" {
					t.Errorf("something else at %d: %v", i, r.Err())
					return
				}
			}
			if err != api.OK || r.Done() != api.OK {
				t.Errorf("%v, %v", err, r.Done())
			}
		})
	}
	all.Wait()
}

package coder

import (
	"encoding/binary"
	"math"
	"math/rand"
	"slices"
	"strconv"
	"strings"
	"testing"

	"hearsay/api"
)

const (
	mostNumber = 1073741824 // chapter 1's and 10's limits, as numbers
	mostText   = 65536
)

// call is one call of a Writer or of a Reader: its method's name, and of its arguments those that the method has.
type call struct {
	what string
	n    int // Number's, and how many at most
	s    string
	is   bool
	d    api.Digest
	e    api.Errno
}

// String tells a call in a few signs.
func (c call) String() string {
	return c.what + " " + strconv.Itoa(c.n) + " " + strconv.Quote(short(c.s)) + " of " + strconv.Itoa(len(c.s)) + " " + strconv.FormatBool(c.is) + " " + c.e.Error()
}

// number, text, flag, digest and fail are calls of a Writer.
func number(n int) call        { return call{what: "number", n: n} }
func text(s string) call       { return call{what: "text", s: s} }
func flag(is bool) call        { return call{what: "flag", is: is} }
func digest(d api.Digest) call { return call{what: "digest", d: d} }
func fail(e api.Errno) call    { return call{what: "fail", e: e} }

// aNumber, aText, aFlag and aDigest are calls of a Reader; fail is one, too.
func aNumber(most int) call { return call{what: "number", n: most} }
func aText(most int) call   { return call{what: "text", n: most} }
func aFlag() call           { return call{what: "flag"} }
func aDigest() call         { return call{what: "digest"} }

// putBy calls a Writer.
func putBy(w *Writer, c call) {
	switch c.what {
	case "number":
		w.Number(c.n)
	case "text":
		w.Text(c.s)
	case "flag":
		w.Flag(c.is)
	case "digest":
		w.Digest(c.d)
	case "fail":
		w.Fail(c.e)
	}
}

// piece is what a read answers, of whatever kind.
type piece struct {
	n  int
	s  string
	is bool
	d  api.Digest
}

// String tells a piece in a few signs.
func (p piece) String() string {
	return strconv.Itoa(p.n) + " " + strconv.Quote(short(p.s)) + " " + strconv.FormatBool(p.is) + " " + strconv.Quote(string(p.d[:]))
}

// takeBy calls a Reader.
func takeBy(r *Reader, c call) piece {
	switch c.what {
	case "number":
		return piece{n: r.Number(c.n)}
	case "text":
		return piece{s: r.Text(c.n)}
	case "flag":
		return piece{is: r.Flag()}
	case "digest":
		return piece{d: r.Digest()}
	case "fail":
		r.Fail(c.e)
	}
	return piece{}
}

// numberBytes are a number's bytes, as the library writes them.
func numberBytes(n int) string {
	return string(binary.AppendUvarint(nil, uint64(n)))
}

// bytesWords are by 10.1's words the bytes of a call, or what is wrong of it.
func bytesWords(c call) (string, api.Errno) {
	switch {
	case c.what == "fail":
		return "", c.e
	case c.what == "number" && (c.n < 0 || c.n > mostNumber):
		return "", api.ErrSize
	case c.what == "number":
		return numberBytes(c.n), api.OK
	case c.what == "text" && len(c.s) > mostText:
		return "", api.ErrSize
	case c.what == "text":
		return numberBytes(len(c.s)) + c.s, api.OK
	case c.what == "digest":
		return string(c.d[:]), api.OK
	case c.is:
		return "\x01", api.OK
	}
	return "\x00", api.OK
}

// doneWords is by 10.1's words what Done answers behind calls.
func doneWords(calls []call) (string, api.Errno) {
	var all strings.Builder
	for _, c := range calls {
		put, err := bytesWords(c)
		if err != api.OK {
			return "", err
		}
		all.WriteString(put)
	}
	return all.String(), api.OK
}

// takenNumber is by 1.2's words the number that a text begins with, and how many bytes it has.
func takenNumber(s string) (int, int, api.Errno) {
	last := slices.IndexFunc([]byte(s[:min(len(s), 5)]), func(b byte) bool { return b < 128 })
	switch {
	case last < 0 && len(s) < 5:
		return 0, 0, api.ErrShort
	case last < 0:
		return 0, 0, api.ErrSize
	case last > 0 && s[last] == 0:
		return 0, 0, api.ErrForm
	}
	n, _ := binary.Uvarint([]byte(s[:last+1]))
	if n > mostNumber {
		return 0, 0, api.ErrSize
	}
	return int(n), last + 1, api.OK
}

// pieceWords is by 10.2's words what a call takes of what is left, and how many bytes it has; or what is wrong.
func pieceWords(left string, c call) (piece, int, api.Errno) {
	switch c.what {
	case "fail":
		return piece{}, 0, c.e
	case "flag":
		if left == "" {
			return piece{}, 0, api.ErrShort
		}
		if left[0] > 1 {
			return piece{}, 0, api.ErrForm
		}
		return piece{is: left[0] == 1}, 1, api.OK
	case "digest":
		if len(left) < 32 {
			return piece{}, 0, api.ErrShort
		}
		return piece{d: api.Digest([]byte(left[:32]))}, 32, api.OK
	}
	n, size, err := takenNumber(left)
	switch {
	case err != api.OK:
		return piece{}, 0, err
	case n > c.n:
		return piece{}, 0, api.ErrSize
	case c.what == "number":
		return piece{n: n}, size, api.OK
	case len(left)-size < n:
		return piece{}, 0, api.ErrShort
	}
	return piece{s: left[size : size+n]}, size + n, api.OK
}

// reading is a Reader by the chapter's words: what is left, and what is wrong.
type reading struct {
	left string
	err  api.Errno
}

// take takes what a call takes, if nothing is wrong.
func (m *reading) take(c call) piece {
	if m.err != api.OK {
		return piece{}
	}
	got, size, err := pieceWords(m.left, c)
	m.left, m.err = m.left[size:], err
	return got
}

// done is what is wrong, or that bytes are left.
func (m *reading) done() api.Errno {
	if m.err == api.OK && m.left != "" {
		return api.ErrMore
	}
	return m.err
}

// written is what Done answers behind calls of a new Writer; and it is held against the words behind each call.
func written(t *testing.T, calls ...call) (string, api.Errno) {
	t.Helper()
	var w Writer
	for i := range len(calls) + 1 {
		got, err := w.Done()
		want, wantErr := doneWords(calls[:i])
		if got != want || err != wantErr {
			t.Fatalf("behind %v: %q, %v, not %q, %v", calls[:i], short(got), err, short(want), wantErr)
		}
		if again, errAgain := w.Done(); again != got || errAgain != err {
			t.Fatalf("behind %v, asked twice: %q, %v", calls[:i], short(again), errAgain)
		}
		if i < len(calls) {
			putBy(&w, calls[i])
		}
	}
	return w.Done()
}

// holdReads holds a Reader of a text against the words, behind each call, and answers it.
func holdReads(t *testing.T, s string, calls ...call) *Reader {
	t.Helper()
	r, m := New(s), &reading{left: s}
	for i := range len(calls) + 1 {
		if r.Left() != len(m.left) || r.Err() != m.err || r.Done() != m.done() {
			t.Fatalf("of %q behind %v: %d are left, %v, %v, not %d, %v, %v", short(s), calls[:i], r.Left(), r.Err(), r.Done(), len(m.left), m.err, m.done())
		}
		if r.Left() != len(m.left) || r.Err() != m.err { // Done has changed nothing
			t.Fatalf("of %q behind %v and Done: %d are left, %v", short(s), calls[:i], r.Left(), r.Err())
		}
		if i == len(calls) {
			break
		}
		if got, want := takeBy(r, calls[i]), m.take(calls[i]); got != want {
			t.Fatalf("of %q behind %v: %v is %v, not %v", short(s), calls[:i], calls[i], got, want)
		}
	}
	return r
}

// short is a text, or its beginning.
func short(s string) string {
	return s[:min(len(s), 40)]
}

// goodNumbers are the edges of numbers that may be, and others between.
func goodNumbers() []int {
	return []int{0, 1, 2, 63, 64, 126, 127, 128, 129, 255, 256, 300, 1<<14 - 1, 1 << 14, 65535, 65536, 65537, 1<<21 - 1, 1 << 21, 1<<28 - 1, 1 << 28, mostNumber - 1, mostNumber}
}

// badNumbers have no bytes.
func badNumbers() []int {
	return []int{-1, -2, -127, -128, -300, -mostNumber, math.MinInt32, math.MinInt + 1, math.MinInt, mostNumber + 1, mostNumber + 128, 2 * mostNumber, math.MaxInt32, math.MaxUint32, 1 << 32, 1<<32 + 1, math.MaxInt - 1, math.MaxInt}
}

// allBytes is a text of each byte once.
func allBytes() string {
	all := make([]byte, 256)
	for i := range all {
		all[i] = byte(i)
	}
	return string(all)
}

// goodTexts are texts that may be, of the edges' lengths.
func goodTexts() []string {
	return []string{"", "a", "ab", "\x00", "\x80", "\xff", "\x00\x01", "\u00e4\u20ac", allBytes(), strings.Repeat("x", 127), strings.Repeat("y", 128), strings.Repeat("\x00", 16383), strings.Repeat("\xff", 16384), strings.Repeat("z", mostText-1), strings.Repeat("\x01", mostText)}
}

// digests are one of zeros, one of bytes of all kinds, and others.
func digests() []api.Digest {
	list := make([]api.Digest, 5)
	for i := range 32 {
		list[1][i] = byte(i*8 + i%8)
		list[2][i] = 255
		list[3][i] = byte(200 - 3*i)
	}
	list[4][31] = 1
	return list
}

// errnos are errors, and numbers that are none of the api's.
func errnos() []api.Errno {
	list := []api.Errno{-1, 17, 99, math.MaxInt, math.MinInt}
	for e := api.ErrPath; e <= api.ErrLine; e++ {
		list = append(list, e)
	}
	return list
}

// mosts are how many at most, from the least int to the greatest.
func mosts() []int {
	return []int{math.MinInt, math.MinInt32, -mostNumber, -300, -2, -1, 0, 1, 2, 3, 31, 32, 63, 126, 127, 128, 299, 300, 301, mostText - 1, mostText, mostText + 1, mostNumber - 1, mostNumber, mostNumber + 1, math.MaxInt32, math.MaxInt}
}

// drawnPut is a call of a Writer, drawn, that may be.
func drawnPut(r *rand.Rand) call {
	switch r.Intn(4) {
	case 0:
		return number(r.Intn(mostNumber+1) >> r.Intn(31))
	case 1:
		return text(drawnText(r, r.Intn(1+r.Intn(300))))
	case 2:
		return flag(r.Intn(2) == 1)
	}
	var d api.Digest
	r.Read(d[:])
	return digest(d)
}

// drawnText is a text of so many bytes, drawn; often of such as begin numbers and flags.
func drawnText(r *rand.Rand, length int) string {
	const edge = "\x00\x01\x02\x03\x04\x20\x7f\x80\x81\xff"
	s := make([]byte, length)
	for i := range s {
		s[i] = byte(r.Intn(256))
		if r.Intn(2) == 0 {
			s[i] = edge[r.Intn(len(edge))]
		}
	}
	return string(s)
}

// drawnTake is a call of a Reader, drawn; now and then Fail.
func drawnTake(r *rand.Rand) call {
	most := math.MaxInt
	if r.Intn(2) == 0 {
		most = mosts()[r.Intn(len(mosts()))]
	}
	if r.Intn(20) == 0 {
		return fail([]api.Errno{api.OK, api.ErrKind}[r.Intn(2)])
	}
	return []call{aNumber(most), aText(most), aFlag(), aDigest()}[r.Intn(4)]
}

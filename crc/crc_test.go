package crc

import (
	"encoding/binary"
	"hash/crc32"
	"math/bits"
	"math/rand"
	"strings"
	"sync"
	"testing"
)

// drawn is a text of that length, always the same for the same draw.
func drawn(draw *rand.Rand, length int) string {
	t := make([]byte, length)
	draw.Read(t)
	return string(t)
}

// texts are all of up to one byte, some of one byte again and again, and some that are drawn, always the same.
func texts() []string {
	list := []string{"", "123456789", "The quick brown fox jumps over the lazy dog", "Grüße\n", strings.Repeat("ab", 1<<12)}
	for b := range 256 {
		list = append(list, string([]byte{byte(b)}))
	}
	for length := range 40 {
		list = append(list, strings.Repeat("\x00", length), strings.Repeat("\xff", length))
	}
	draw := rand.New(rand.NewSource(1))
	for length := range 400 {
		list = append(list, drawn(draw, length), drawn(draw, length%9))
	}
	return list
}

// sealed is 2.2 by the library's sum.
func sealed(t string) string {
	return string(binary.LittleEndian.AppendUint32([]byte(t), crc32.ChecksumIEEE([]byte(t))))
}

// put is two texts of one length, put together byte by byte by exclusive or.
func put(s, t string) string {
	b := []byte(s)
	for i := range b {
		b[i] ^= t[i]
	}
	return string(b)
}

// bent is a text with bits turned in four bytes from a place on (in fewer, where it ends sooner).
func bent(t string, at int, turned uint32) string {
	var four [4]byte
	binary.LittleEndian.PutUint32(four[:], turned)
	b := []byte(t)
	for i := at; i < min(at+4, len(b)); i++ {
		b[i] ^= four[i-at]
	}
	return string(b)
}

// 2.1: sums as they are written down, the chapter's among them.
func TestOfTable(t *testing.T) {
	for _, c := range []struct {
		t   string
		sum uint32
	}{
		{"", 0},
		{"123456789", 0xCBF43926},
		{"\x00", 0xD202EF8D},
		{"\x00\x00\x00\x00", 0x2144DF1C},
		{"\xff", 0xFF000000},
		{"\xff\xff\xff\xff", 0xFFFFFFFF},
		{"a", 0xE8B7BE43},
		{"abc", 0x352441C2},
		{"The quick brown fox jumps over the lazy dog", 0x414FA339},
	} {
		if sum := Of(c.t); sum != c.sum {
			t.Errorf("Of(%q) = %08X, not %08X", c.t, sum, c.sum)
		}
	}
}

// ofWords is the chapter's words, bit by bit, so that Of can be held against them without its turned bits.
func ofWords(t string) uint32 {
	sum := uint32(0xFFFFFFFF)
	for _, b := range []byte(t) {
		sum ^= uint32(b)
		for range 8 {
			if sum%2 == 1 {
				sum = sum/2 ^ 0xEDB88320
			} else {
				sum = sum / 2
			}
		}
	}
	return 0xFFFFFFFF - sum
}

// 2.1: the sum of all texts, by the words and by the library's; the same again (R5).
func TestOfAgainstWordsAndLibrary(t *testing.T) {
	for _, s := range texts() {
		sum, again := Of(s), Of(s)
		if words, library := ofWords(s), crc32.ChecksumIEEE([]byte(s)); sum != words || sum != library {
			t.Fatalf("Of(%q) = %08X, by the words %08X, by the library %08X", s, sum, words, library)
		}
		if sum != again {
			t.Fatalf("Of(%q) = %08X, and then %08X", s, sum, again)
		}
	}
}

// 2.1: a long text, of more bytes than any frame.
func TestOfLong(t *testing.T) {
	s := drawn(rand.New(rand.NewSource(2)), 1<<20)
	if sum, want := Of(s), crc32.ChecksumIEEE([]byte(s)); sum != want {
		t.Fatalf("%08X, not %08X", sum, want)
	}
}

// 2.1: the zero Sum is that of none, and stays it while empty texts go in.
func TestZeroSum(t *testing.T) {
	var s Sum
	if sum := s.Value(); sum != 0 {
		t.Errorf("of a zero Sum: %08X", sum)
	}
	s.Write("")
	s.Write("")
	if sum := s.Value(); sum != 0 {
		t.Errorf("behind empty texts: %08X", sum)
	}
	s.Write("\x00")
	if sum := s.Value(); sum != 0xD202EF8D {
		t.Errorf("behind a byte 0: %08X", sum)
	}
	if sum := new(Sum).Value(); sum != 0 {
		t.Errorf("of another zero Sum: %08X", sum)
	}
}

// 2.1: into a nil Sum goes nothing, and it is the sum of none.
func TestNilSum(t *testing.T) {
	var s *Sum
	if sum := s.Value(); sum != 0 {
		t.Errorf("of a nil Sum: %08X", sum)
	}
	for _, text := range []string{"", "a", "123456789"} {
		s.Write(text)
		if sum := s.Value(); sum != 0 {
			t.Errorf("behind %q: %08X", text, sum)
		}
	}
}

// 2.1 and 2.3: pieces, empty ones among them, come to the sum of all; Value asked between them tells of those so far, and changes nothing.
func TestPieces(t *testing.T) {
	draw := rand.New(rand.NewSource(3))
	for _, text := range texts() {
		var asked, unasked Sum
		for at := 0; at < len(text); {
			end := min(len(text), at+draw.Intn(1+draw.Intn(20)))
			asked.Write(text[at:end])
			unasked.Write(text[at:end])
			at = end
			for range 2 {
				if sum := asked.Value(); sum != Of(text[:at]) {
					t.Fatalf("%q, the first %d bytes: %08X, not %08X", text, at, sum, Of(text[:at]))
				}
			}
		}
		if sum := unasked.Value(); sum != Of(text) {
			t.Fatalf("%q, piece by piece: %08X, not %08X", text, sum, Of(text))
		}
	}
}

// 2.3: every way to cut a text in three comes to the sum of all.
func TestEveryCut(t *testing.T) {
	const text = "123456789"
	for i := range len(text) + 1 {
		for k := i; k <= len(text); k++ {
			var s Sum
			s.Write(text[:i])
			s.Write(text[i:k])
			s.Write(text[k:])
			if sum := s.Value(); sum != 0xCBF43926 {
				t.Errorf("cut at %d and %d: %08X", i, k, sum)
			}
		}
	}
}

// 2.1, R5: a sum hangs on what went into it alone, not on another one that goes on beside it, nor on the one it was copied of.
func TestSumsAreApart(t *testing.T) {
	var a, b Sum
	a.Write("1234")
	b.Write("abc")
	c := a
	a.Write("56789")
	c.Write("x")
	if a.Value() != Of("123456789") || b.Value() != Of("abc") || c.Value() != Of("1234x") {
		t.Errorf("%08X, %08X, %08X", a.Value(), b.Value(), c.Value())
	}
}

// R5: sums that are made at the same time know nothing of one another.
func TestSumsAtOnce(t *testing.T) {
	var all sync.WaitGroup
	for i := range 8 {
		all.Go(func() {
			s := strings.Repeat(string(rune('a'+i)), 1000)
			if sum, want := Of(s), crc32.ChecksumIEEE([]byte(s)); sum != want {
				t.Errorf("%08X, not %08X", sum, want)
			}
		})
	}
	all.Wait()
}

// 2.2: sealed texts as they are written down: the sum's lowest byte first.
func TestSealTable(t *testing.T) {
	for _, c := range []struct{ t, sealed string }{
		{"", "\x00\x00\x00\x00"},
		{"a", "a\x43\xbe\xb7\xe8"},
		{"123456789", "123456789\x26\x39\xf4\xcb"},
		{"\xff", "\xff\x00\x00\x00\xff"},
		{"\x00\x00\x00\x00", "\x00\x00\x00\x00\x1c\xdf\x44\x21"},
	} {
		if s := Seal(c.t); s != c.sealed {
			t.Errorf("Seal(%q) = %q, not %q", c.t, s, c.sealed)
		}
		if text, ok := Open(c.sealed); text != c.t || !ok {
			t.Errorf("Open(%q) = %q, %v", c.sealed, text, ok)
		}
	}
}

// 2.2: what is sealed is opened, once for each seal.
func TestSealedIsOpened(t *testing.T) {
	for _, s := range texts() {
		once := Seal(s)
		if once != sealed(s) {
			t.Fatalf("Seal(%q) = %q, not %q", s, once, sealed(s))
		}
		twice := Seal(once)
		if text, ok := Open(twice); text != once || !ok {
			t.Fatalf("Open(%q) = %q, %v", twice, text, ok)
		}
		if text, ok := Open(once); text != s || !ok {
			t.Fatalf("Open(%q) = %q, %v", once, text, ok)
		}
	}
}

// 2.2: texts of fewer than four bytes have no sum at their end, whatever they are.
func TestOpenShort(t *testing.T) {
	list := []string{"", "\x00", "\x00\x00", "\x00\x00\x00", "\xff", "\xff\xff\xff", "a", "ab", "abc"}
	for _, s := range texts() {
		for length := range min(4, len(s)) {
			list = append(list, s[:length], Seal(s)[:length])
		}
	}
	for _, s := range list {
		if text, ok := Open(s); text != "" || ok {
			t.Fatalf("Open(%q) = %q, %v", s, text, ok)
		}
	}
}

// 2.2: of the texts of just four bytes, that of four noughts alone is opened: it is the sealed empty text.
func TestOpenFour(t *testing.T) {
	if text, ok := Open("\x00\x00\x00\x00"); text != "" || !ok {
		t.Errorf("Open of four noughts = %q, %v", text, ok)
	}
	draw := rand.New(rand.NewSource(4))
	for i := range 1 << 16 {
		turned := draw.Uint32() | 1
		if i < 32 {
			turned = 1 << i
		}
		s := bent("\x00\x00\x00\x00", 0, turned)
		if text, ok := Open(s); text != "" || ok {
			t.Fatalf("Open(%q) = %q, %v", s, text, ok)
		}
	}
}

// 2.2: a text is opened if its last four bytes are the sum of the others, and no other one; beside false stands nothing (R2).
func TestOpenAgainstLibrary(t *testing.T) {
	draw := rand.New(rand.NewSource(5))
	for _, s := range texts() {
		good := sealed(s)
		highest := binary.BigEndian.AppendUint32([]byte(s), crc32.ChecksumIEEE([]byte(s)))
		list := []string{s, good, good + "\x00", "\x00" + good, good[1:], good[:len(good)-1], string(highest), s + drawn(draw, 4)}
		for _, u := range list {
			want, wantOK := "", false
			if end := len(u) - 4; end >= 0 && sealed(u[:end]) == u {
				want, wantOK = u[:end], true
			}
			if text, ok := Open(u); text != want || ok != wantOK {
				t.Fatalf("Open(%q) = %q, %v, not %q, %v", u, text, ok, want, wantOK)
			}
		}
	}
}

// seen fails if a text is opened that was sealed, and then bent.
func seen(t *testing.T, s string, at int, turned uint32) {
	t.Helper()
	if u := bent(s, at, turned); u != s {
		if text, ok := Open(u); text != "" || ok {
			t.Fatalf("%q, bent at %d by %08X: Open = %q, %v", s, at, turned, text, ok)
		}
	}
}

// 2.3: bits that are turned within four bytes are seen, anywhere in a sealed text, its sum too.
func TestBentIsSeen(t *testing.T) {
	draw := rand.New(rand.NewSource(6))
	for length := range 24 {
		s := Seal(drawn(draw, length))
		for at := range len(s) {
			for one := range 32 {
				for two := range one + 1 {
					seen(t, s, at, 1<<one|1<<two)
				}
			}
			for turned := range 256 {
				seen(t, s, at, uint32(turned))
			}
			for range 200 {
				seen(t, s, at, draw.Uint32())
			}
			seen(t, s, at, 0xFFFFFFFF)
		}
	}
}

// 2.3: the same in a text that is long.
func TestBentIsSeenInLong(t *testing.T) {
	draw := rand.New(rand.NewSource(7))
	s := Seal(drawn(draw, 5000))
	for range 500 {
		seen(t, s, draw.Intn(len(s)), draw.Uint32())
	}
	for at := len(s) - 9; at < len(s); at++ {
		for range 50 {
			seen(t, s, at, draw.Uint32())
		}
	}
}

// off is by how much a sealed text's sum and its last four bytes differ when it is bent.
func off(s string, at int, turned uint32) uint32 {
	u := bent(s, at, turned)
	end := len(u) - 4
	return Of(u[:end]) ^ binary.LittleEndian.Uint32([]byte(u[end:]))
}

// rank is how many of the numbers are no exclusive or of others among them.
func rank(list []uint32) int {
	var leading [33]uint32
	count := 0
	for _, n := range list {
		for n != 0 && leading[bits.Len32(n)] != 0 {
			n ^= leading[bits.Len32(n)]
		}
		if n != 0 {
			leading[bits.Len32(n)] = n
			count++
		}
	}
	return count
}

// 2.3: all ways to turn bits within four bytes are seen: what the 32 single bits do is such that no choice of them comes to nothing.
func TestNoBendIsUnseen(t *testing.T) {
	draw := rand.New(rand.NewSource(8))
	for _, length := range []int{0, 1, 2, 3, 4, 5, 8, 51, 300} {
		s := Seal(drawn(draw, length))
		for at := range len(s) - 3 {
			var list []uint32
			for bit := range 32 {
				list = append(list, off(s, at, 1<<bit))
			}
			if r := rank(list); r != 32 {
				t.Fatalf("%d bytes, at %d: of 32 bits only %d are told apart", length, at, r)
			}
		}
	}
}

// 2.3: of three texts of one length, put together by exclusive or, the sum is that of their sums.
func TestThreePutTogether(t *testing.T) {
	draw := rand.New(rand.NewSource(9))
	for length := range 300 {
		a, b, c := drawn(draw, length), drawn(draw, length), drawn(draw, length)
		for _, three := range [][3]string{{a, b, c}, {a, a, c}, {b, b, b}, {a, strings.Repeat("\x00", length), c}} {
			all := put(put(three[0], three[1]), three[2])
			want := Of(three[0]) ^ Of(three[1]) ^ Of(three[2])
			if sum := Of(all); sum != want {
				t.Fatalf("%q: %08X, not %08X", three, sum, want)
			}
		}
	}
}

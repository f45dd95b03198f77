package sha

import (
	"crypto/sha256"
	"encoding"
	"encoding/binary"
	"math/rand"
	"strings"
	"sync"
	"testing"

	"hearsay/api"
)

// drawn is a text of that length, always the same for the same draw.
func drawn(draw *rand.Rand, length int) string {
	t := make([]byte, length)
	draw.Read(t)
	return string(t)
}

// texts are all of up to one byte, and some of each length up to more than five blocks, always the same.
func texts() []string {
	list := []string{"", "abc", "Grüße\n", strings.Repeat("ab", 1<<12)}
	for b := range 256 {
		list = append(list, string([]byte{byte(b)}))
	}
	draw := rand.New(rand.NewSource(1))
	for length := range 5*64 + 2 {
		list = append(list, drawn(draw, length), strings.Repeat("\x00", length), strings.Repeat("\xff", length))
	}
	return list
}

// library is the library's digest.
func library(t string) api.Digest {
	return sha256.Sum256([]byte(t))
}

// 3.1: digests as they are written down, the chapter's among them.
func TestOfTable(t *testing.T) {
	for _, c := range []struct{ t, hex string }{
		{"", "e3b0c44298fc1c149afbf4c8996fb92427ae41e4649b934ca495991b7852b855"},
		{"a", "ca978112ca1bbdcafac231b39a23dc4da786eff8147c4e72b9807785afee48bb"},
		{"abc", "ba7816bf8f01cfea414140de5dae2223b00361a396177a9cb410ff61f20015ad"},
		{"\xbd", "68325720aabd7c82f30f554b313d0570c95accbb7dc4b5aae11204c08ffe732b"},
		{"message digest", "f7846f55cf23e14eebeab5b4e1550cad5b509e3348fbc4efa3a1413d393cb650"},
		{"abcdbcdecdefdefgefghfghighijhijkijkljklmklmnlmnomnopnopq", "248d6a61d20638b8e5c026930c3e6039a33ce45964ff2167f6ecedd419db06c1"},
		{strings.Repeat("\x00", 55), "02779466cdec163811d078815c633f21901413081449002f24aa3e80f0b88ef7"},
		{strings.Repeat("\x00", 56), "d4817aa5497628e7c77e6b606107042bbba3130888c5f47a375e6179be789fbb"},
		{strings.Repeat("\x00", 64), "f5a5fd42d16a20302798ef6ed309979b43003d2320d9f0e8ea9831a92759fb4b"},
	} {
		if hex := Hex(Of(c.t)); hex != c.hex {
			t.Errorf("Of(%q) = %s, not %s", c.t, hex, c.hex)
		}
	}
}

// 3.1: the digest of all texts, those right at, below and above one block more among them, by the words and by the library's; the same again (R5).
func TestOfAgainstWordsAndLibrary(t *testing.T) {
	for _, s := range texts() {
		d := Of(s)
		if words, library := ofWords(s), library(s); d != words || d != library {
			t.Fatalf("Of(%q) = %x, by the words %x, by the library %x", s, d, words, library)
		}
		if again := Of(s); d != again {
			t.Fatalf("Of(%q) = %x, and then %x", s, d, again)
		}
	}
}

// 3.1: a long text, of more bytes than any frame.
func TestOfLong(t *testing.T) {
	for _, length := range []int{1 << 20, 1<<20 + 55, 1<<20 + 56, 1<<20 - 1} {
		s := drawn(rand.New(rand.NewSource(2)), length)
		if d, want := Of(s), library(s); d != want {
			t.Errorf("%d bytes: %x, not %x", length, d, want)
		}
	}
}

// 3.1: where one block more is needed behind a text, and that the number of bits stands last, in eight bytes.
func TestEnding(t *testing.T) {
	for _, length := range []uint64{0, 1, 54, 55, 56, 57, 63, 64, 65, 119, 120, 128, 1<<29 - 1, 1 << 29, 1<<29 + 55, 1<<31 - 1, 1 << 40} {
		end := ending(length)
		noughts := (55 + 64 - length%64) % 64
		want := "\x80" + strings.Repeat("\x00", int(noughts)) + string(binary.BigEndian.AppendUint64(nil, 8*length))
		if end != want || (length+uint64(len(end)))%64 != 0 {
			t.Errorf("behind %d bytes: %q, not %q", length, end, want)
		}
	}
}

// resumed is the library's digest of a text that goes in when so many bytes are counted already, and the words are as at the start: so none of those bytes need be there.
func resumed(t *testing.T, length uint64, text string) api.Digest {
	t.Helper()
	state := []byte("sha\x03")
	for _, word := range start {
		state = binary.BigEndian.AppendUint32(state, word)
	}
	state = binary.BigEndian.AppendUint64(append(state, make([]byte, 64)...), length)
	sum := sha256.New()
	if err := sum.(encoding.BinaryUnmarshaler).UnmarshalBinary(state); err != nil {
		t.Fatal(err)
	}
	sum.Write([]byte(text))
	return api.Digest(sum.Sum(nil))
}

// 3.1: a sum into which more bits went than a word counts.
func TestGreatLength(t *testing.T) {
	for _, length := range []uint64{64, 1<<29 - 64, 1 << 29, 1<<31 - 64, 1 << 32, 1 << 40} {
		for _, text := range []string{"", "abc", strings.Repeat("x", 200)} {
			s := Sum{length: length}
			s.Write(text)
			if d, want := s.Value(), resumed(t, length, text); d != want {
				t.Errorf("%q behind %d bytes: %x, not %x", text, length, d, want)
			}
		}
	}
}

// 3.1: the zero Sum is that of nothing, and stays it while empty texts go in.
func TestZeroSum(t *testing.T) {
	var s Sum
	if d := s.Value(); d != library("") {
		t.Errorf("of a zero Sum: %x", d)
	}
	s.Write("")
	s.Write("")
	if d := s.Value(); d != library("") {
		t.Errorf("behind empty texts: %x", d)
	}
	s.Write("\x00")
	if d := s.Value(); d != library("\x00") {
		t.Errorf("behind a byte 0: %x", d)
	}
	if d := new(Sum).Value(); d != library("") {
		t.Errorf("of another zero Sum: %x", d)
	}
}

// 3.1: into a nil Sum goes nothing, and it tells the zero Digest, not that of nothing.
func TestNilSum(t *testing.T) {
	var s *Sum
	if d := s.Value(); d != (api.Digest{}) {
		t.Errorf("of a nil Sum: %x", d)
	}
	for _, text := range []string{"", "abc", strings.Repeat("x", 64), strings.Repeat("x", 1000)} {
		s.Write(text)
		if d := s.Value(); d != (api.Digest{}) {
			t.Errorf("behind %d bytes: %x", len(text), d)
		}
	}
}

// 3.1 and 3.3: pieces, empty ones among them, come to the digest of all; Value asked between them tells of those so far, and changes nothing.
func TestPieces(t *testing.T) {
	draw := rand.New(rand.NewSource(3))
	for _, text := range texts() {
		var asked, unasked Sum
		for at := 0; at < len(text); {
			end := min(len(text), at+draw.Intn(1+draw.Intn(150)))
			asked.Write(text[at:end])
			unasked.Write(text[at:end])
			at = end
			for range 2 {
				if d := asked.Value(); d != library(text[:at]) {
					t.Fatalf("%q, the first %d bytes: %x, not %x", text, at, d, library(text[:at]))
				}
			}
		}
		if d := unasked.Value(); d != Of(text) || d != library(text) {
			t.Fatalf("%q, piece by piece: %x, not %x", text, d, Of(text))
		}
	}
}

// 3.3: byte by byte, with Value asked at every one.
func TestByteByByte(t *testing.T) {
	text := drawn(rand.New(rand.NewSource(4)), 300)
	var s Sum
	for i := range len(text) {
		if d := s.Value(); d != library(text[:i]) {
			t.Fatalf("the first %d bytes: %x, not %x", i, d, library(text[:i]))
		}
		s.Write(text[i : i+1])
	}
	if d := s.Value(); d != library(text) {
		t.Fatalf("%x, not %x", d, library(text))
	}
}

// 3.3: every way to cut a text of more than two blocks in three comes to the digest of all.
func TestEveryCut(t *testing.T) {
	text := drawn(rand.New(rand.NewSource(5)), 140)
	want := library(text)
	for i := range len(text) + 1 {
		for k := i; k <= len(text); k++ {
			var s Sum
			s.Write(text[:i])
			s.Write(text[i:k])
			s.Write(text[k:])
			if d := s.Value(); d != want {
				t.Fatalf("cut at %d and %d: %x, not %x", i, k, d, want)
			}
		}
	}
}

// 3.1, R5: a sum hangs on what went into it alone, not on another one that goes on beside it, nor on the one it was copied of.
func TestSumsAreApart(t *testing.T) {
	long := strings.Repeat("l", 100)
	var a, b Sum
	a.Write(long)
	b.Write("abc")
	c := a
	a.Write("a" + long)
	c.Write("c")
	if a.Value() != library(long+"a"+long) || b.Value() != library("abc") || c.Value() != library(long+"c") {
		t.Errorf("%x, %x, %x", a.Value(), b.Value(), c.Value())
	}
}

// R4: a digest that was handed out is nobody else's.
func TestValueIsNew(t *testing.T) {
	var s Sum
	s.Write("abc")
	d := s.Value()
	clear(d[:])
	if again := s.Value(); again != library("abc") {
		t.Errorf("%x, not %x", again, library("abc"))
	}
}

// R5: digests that are made at the same time know nothing of one another.
func TestSumsAtOnce(t *testing.T) {
	var all sync.WaitGroup
	for i := range 8 {
		all.Go(func() {
			s := strings.Repeat(string(rune('a'+i)), 1000)
			if d, want := Of(s), library(s); d != want {
				t.Errorf("%x, not %x", d, want)
			}
		})
	}
	all.Wait()
}

func BenchmarkOf(b *testing.B) {
	s := strings.Repeat("x", 1<<16)
	b.SetBytes(int64(len(s)))
	for b.Loop() {
		Of(s)
	}
}

package count

import (
	"encoding/binary"
	"math"
	"math/rand"
	"slices"
	"strings"
	"testing"

	"hearsay/api"
)

// edges are numbers around each change of length, and around the limit.
func edges() []int {
	list := []int{0, 1, 2, 63, 64, 300, api.MaxNumber - 1, api.MaxNumber}
	for k := 7; k <= 28; k += 7 {
		list = append(list, 1<<k-1, 1<<k, 1<<k+1)
	}
	return list
}

// numbers are the edges, all that are small, and some that are drawn, always the same.
func numbers() []int {
	list := edges()
	for n := range 1 << 15 {
		list = append(list, n)
	}
	draw := rand.New(rand.NewSource(1))
	for range 1 << 15 {
		list = append(list, draw.Intn(api.MaxNumber+1)>>draw.Intn(31))
	}
	return list
}

// noNumbers have no bytes.
func noNumbers() []int {
	return []int{-1, -2, -127, -128, -api.MaxNumber, math.MinInt32, math.MinInt, math.MinInt + 1,
		api.MaxNumber + 1, api.MaxNumber + 2, api.MaxNumber * 3 / 2, math.MaxInt32, math.MaxInt, math.MaxInt - 1}
}

// 1.1: each number's bytes, as they are written down.
func TestPutTable(t *testing.T) {
	for _, c := range []struct {
		n int
		s string
	}{
		{0, "\x00"}, {1, "\x01"}, {126, "\x7e"}, {127, "\x7f"},
		{128, "\x80\x01"}, {129, "\x81\x01"}, {255, "\xff\x01"}, {256, "\x80\x02"}, {300, "\xac\x02"},
		{1<<14 - 1, "\xff\x7f"}, {1 << 14, "\x80\x80\x01"}, {1<<14 + 1, "\x81\x80\x01"},
		{1<<21 - 1, "\xff\xff\x7f"}, {1 << 21, "\x80\x80\x80\x01"},
		{1<<28 - 1, "\xff\xff\xff\x7f"}, {1 << 28, "\x80\x80\x80\x80\x01"},
		{api.MaxNumber - 1, "\xff\xff\xff\xff\x03"}, {api.MaxNumber, "\x80\x80\x80\x80\x04"},
	} {
		if s := Put(c.n); s != c.s {
			t.Errorf("Put(%d) = %q, not %q", c.n, s, c.s)
		}
		if k := Size(c.n); k != len(c.s) {
			t.Errorf("Size(%d) = %d, not %d", c.n, k, len(c.s))
		}
	}
}

// 1.1: the same bytes as the library's, which writes numbers in this way.
func TestPutAgainstLibrary(t *testing.T) {
	for _, n := range numbers() {
		want := string(binary.AppendUvarint(nil, uint64(n)))
		if s := Put(n); s != want {
			t.Fatalf("Put(%d) = %q, not %q", n, s, want)
		}
		if k := Size(n); k != len(want) {
			t.Fatalf("Size(%d) = %d, not %d", n, k, len(want))
		}
	}
}

// 1.1: numbers below 0 and above MaxNumber have no bytes.
func TestPutNoNumbers(t *testing.T) {
	for _, n := range noNumbers() {
		if s := Put(n); s != "" {
			t.Errorf("Put(%d) = %q", n, s)
		}
		if k := Size(n); k != 0 {
			t.Errorf("Size(%d) = %d", n, k)
		}
	}
}

// The bytes of a number can be gone through again, and left in the midst.
func TestBytesOfAgain(t *testing.T) {
	told := bytesOf(1 << 28)
	for want := 1; want <= 6; want++ {
		k := 0
		for range told {
			k++
			if k == want {
				break
			}
		}
		if k != min(want, 5) {
			t.Fatalf("%d bytes told, %d asked for", k, want)
		}
	}
}

// 1.2: ordinary texts, and each error at its edges.
func TestTakeTable(t *testing.T) {
	for _, c := range []struct {
		s   string
		n   int
		k   int
		err api.Errno
	}{
		{"\x00", 0, 1, api.OK},
		{"\x00\x00", 0, 1, api.OK},
		{"\x00\x80", 0, 1, api.OK},
		{"\x01", 1, 1, api.OK},
		{"\x7f\xff", 127, 1, api.OK},
		{"\x80\x01", 128, 2, api.OK},
		{"\xac\x02\x09", 300, 2, api.OK},
		{"\xff\xff\xff\xff\x03", api.MaxNumber - 1, 5, api.OK},
		{"\x80\x80\x80\x80\x04", api.MaxNumber, 5, api.OK},
		{"\x80\x80\x80\x80\x04\x80", api.MaxNumber, 5, api.OK},

		{"", 0, 0, api.ErrShort},
		{"\x80", 0, 0, api.ErrShort},
		{"\xff\xff", 0, 0, api.ErrShort},
		{"\x80\x80\x80", 0, 0, api.ErrShort},
		{"\xff\xff\xff\xff", 0, 0, api.ErrShort},

		{"\x80\x80\x80\x80\x80", 0, 0, api.ErrSize},
		{"\xff\xff\xff\xff\xff", 0, 0, api.ErrSize},
		{"\x80\x80\x80\x80\x80\x00", 0, 0, api.ErrSize},
		{"\x80\x80\x80\x80\x80\x01", 0, 0, api.ErrSize},
		{strings.Repeat("\xff", 1000), 0, 0, api.ErrSize},

		{"\x80\x00", 0, 0, api.ErrForm},
		{"\xff\x00", 0, 0, api.ErrForm},
		{"\x80\x80\x00", 0, 0, api.ErrForm},
		{"\x80\x80\x80\x00", 0, 0, api.ErrForm},
		{"\xff\xff\xff\xff\x00", 0, 0, api.ErrForm},
		{"\x80\x00\x01", 0, 0, api.ErrForm},

		{"\x81\x80\x80\x80\x04", 0, 0, api.ErrSize},
		{"\x80\x80\x80\x80\x05", 0, 0, api.ErrSize},
		{"\x80\x80\x80\x80\x08", 0, 0, api.ErrSize},
		{"\x80\x80\x80\x80\x10", 0, 0, api.ErrSize}, // 2^32: lost in 32 bits
		{"\xff\xff\xff\xff\x7f", 0, 0, api.ErrSize},
	} {
		if n, k, err := Take(c.s); n != c.n || k != c.k || err != c.err {
			t.Errorf("Take(%q) = %d, %d, %v, not %d, %d, %v", c.s, n, k, err, c.n, c.k, c.err)
		}
	}
}

// taken is 1.2 word by word, so that Take can be held against it.
func taken(s string) (int, int, api.Errno) {
	first := []byte(s[:min(len(s), 5)])
	last := slices.IndexFunc(first, func(b byte) bool { return b < 128 })
	if last < 0 && len(first) < 5 {
		return 0, 0, api.ErrShort
	}
	if last < 0 {
		return 0, 0, api.ErrSize
	}
	if last > 0 && first[last] == 0 {
		return 0, 0, api.ErrForm
	}
	n, _ := binary.Uvarint(first[:last+1])
	if n > api.MaxNumber {
		return 0, 0, api.ErrSize
	}
	return int(n), last + 1, api.OK
}

// texts are all of up to six bytes that stand at the edges, and some that are drawn, always the same.
func texts() []string {
	const edge = "\x00\x01\x03\x04\x05\x7f\x80\x81\xff"
	row := []string{""}
	list := row
	for range 6 {
		var longer []string
		for _, s := range row {
			for i := range len(edge) {
				longer = append(longer, s+edge[i:i+1])
			}
		}
		list = append(list, longer...)
		row = longer
	}
	draw := rand.New(rand.NewSource(2))
	for range 1 << 16 {
		s := make([]byte, draw.Intn(9))
		for i := range s {
			s[i] = byte(draw.Intn(256) | draw.Intn(2)<<7)
		}
		list = append(list, string(s))
	}
	return list
}

// 1.2: the number, its bytes and the first error, of all texts; beside an error noughts (R2); the same again (R5).
func TestTakeAgainstWords(t *testing.T) {
	seen := map[api.Errno]int{}
	for _, s := range texts() {
		n, k, err := Take(s)
		wantN, wantK, wantErr := taken(s)
		if n != wantN || k != wantK || err != wantErr {
			t.Fatalf("Take(%q) = %d, %d, %v, not %d, %d, %v", s, n, k, err, wantN, wantK, wantErr)
		}
		if n2, k2, err2 := Take(s); n2 != n || k2 != k || err2 != err {
			t.Fatalf("Take(%q) = %d, %d, %v, and then %d, %d, %v", s, n, k, err, n2, k2, err2)
		}
		seen[err]++
	}
	for _, err := range []api.Errno{api.OK, api.ErrShort, api.ErrSize, api.ErrForm} {
		if seen[err] < 100 {
			t.Errorf("only %d texts come to %v", seen[err], err)
		}
	}
}

// 1.3: what is put is taken, whatever stands behind it.
func TestPutIsTaken(t *testing.T) {
	behind := []string{"", "\x00", "\x01", "\x7f", "\x80", "\xff", "\x00\x00", "\xff\xff\xff\xff\xff\xff", "more"}
	for _, n := range numbers() {
		put := Put(n)
		for _, b := range behind {
			if got, k, err := Take(put + b); got != n || k != len(put) || err != api.OK {
				t.Fatalf("Take(Put(%d) + %q) = %d, %d, %v", n, b, got, k, err)
			}
		}
	}
}

// 1.3: what is put and ends early is short.
func TestPutCutIsShort(t *testing.T) {
	for _, n := range edges() {
		put := Put(n)
		for i := range len(put) {
			if got, k, err := Take(put[:i]); got != 0 || k != 0 || err != api.ErrShort {
				t.Errorf("Take(%q), of %d, = %d, %d, %v", put[:i], n, got, k, err)
			}
		}
	}
}

// 1.3: what is taken is what is put.
func TestTakenIsPut(t *testing.T) {
	for _, s := range texts() {
		n, k, err := Take(s)
		if err == api.OK && (Put(n) != s[:k] || Size(n) != k) {
			t.Fatalf("Take(%q) = %d, %d, but Put is %q and Size %d", s, n, k, Put(n), Size(n))
		}
	}
}

// 1.3: a greater number has no fewer bytes.
func TestGreaterIsNoShorter(t *testing.T) {
	list := numbers()
	slices.Sort(list)
	for i := 1; i < len(list); i++ {
		if Size(list[i-1]) > Size(list[i]) || len(Put(list[i-1])) > len(Put(list[i])) {
			t.Fatalf("%d has more bytes than %d", list[i-1], list[i])
		}
	}
}

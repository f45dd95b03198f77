package sha

import (
	"encoding/hex"
	"math/rand"
	"strings"
	"testing"

	"hearsay/api"
)

// digests are some, each byte at each place among them.
func digests() []api.Digest {
	list := []api.Digest{{}, Of(""), Of("abc")}
	for b := range 256 {
		for _, at := range []int{0, 1, 15, 30, 31} {
			var d api.Digest
			d[at] = byte(b)
			list = append(list, d)
		}
	}
	draw := rand.New(rand.NewSource(6))
	for range 500 {
		list = append(list, api.Digest([]byte(drawn(draw, 32))))
	}
	return list
}

// wrong fails if Unhex answers anything but that error, and the zero Digest beside it (R2).
func wrong(t *testing.T, s string, want api.Errno) {
	t.Helper()
	if d, err := Unhex(s); d != (api.Digest{}) || err != want {
		t.Fatalf("Unhex(%q), of %d signs: %x, %v, not %v", s, len(s), d, err, want)
	}
}

// 3.2: digests in signs as they are written down: a byte's higher half first.
func TestHexTable(t *testing.T) {
	rising := api.Digest{}
	for i := range rising {
		rising[i] = byte(i * 8)
	}
	for _, c := range []struct {
		d   api.Digest
		hex string
	}{
		{api.Digest{}, strings.Repeat("0", 64)},
		{api.Digest{0: 0x1f}, "1f" + strings.Repeat("0", 62)},
		{api.Digest{31: 0xa0}, strings.Repeat("0", 62) + "a0"},
		{rising, "0008101820283038404850586068707880889098a0a8b0b8c0c8d0d8e0e8f0f8"},
		{Of("abc"), "ba7816bf8f01cfea414140de5dae2223b00361a396177a9cb410ff61f20015ad"},
	} {
		if hex := Hex(c.d); hex != c.hex {
			t.Errorf("Hex(%x) = %s, not %s", c.d, hex, c.hex)
		}
		if d, err := Unhex(c.hex); d != c.d || err != api.OK {
			t.Errorf("Unhex(%s) = %x, %v", c.hex, d, err)
		}
	}
}

// 3.2: all digests are told in 64 signs, and read again of them.
func TestHexIsRead(t *testing.T) {
	for _, d := range digests() {
		s := Hex(d)
		if want := hex.EncodeToString(d[:]); s != want || len(s) != 64 {
			t.Fatalf("Hex(%x) = %s", d, s)
		}
		if back, err := Unhex(s); back != d || err != api.OK {
			t.Fatalf("Unhex(%s) = %x, %v", s, back, err)
		}
	}
}

// 3.2: what is read is just what is written (P9): signs that are drawn come to a digest whose signs they are.
func TestReadIsWritten(t *testing.T) {
	draw := rand.New(rand.NewSource(7))
	for range 500 {
		s := make([]byte, 64)
		for i := range s {
			s[i] = "0123456789abcdef"[draw.Intn(16)]
		}
		if d, err := Unhex(string(s)); err != api.OK || Hex(d) != string(s) {
			t.Fatalf("Unhex(%s) = %s, %v", s, Hex(d), err)
		}
	}
}

// 3.2: texts of any other length, whose first 64 signs are right.
func TestUnhexLength(t *testing.T) {
	all := strings.Repeat(Hex(Of("abc")), 3)
	for length := range len(all) + 1 {
		switch s := all[:length]; {
		case length < 64:
			wrong(t, s, api.ErrShort)
		case length > 64:
			wrong(t, s, api.ErrMore)
		default:
			if d, err := Unhex(s); d != Of("abc") || err != api.OK {
				t.Errorf("Unhex(%s) = %x, %v", s, d, err)
			}
		}
	}
}

// 3.2: each byte that is no sign, at each of the first 64 places, in texts that are shorter, right and longer; each that is one is taken there.
func TestUnhexForm(t *testing.T) {
	const right = "0123456789abcdef"
	all := strings.Repeat(right, 6)
	for _, length := range []int{1, 2, 31, 32, 62, 63, 64, 65, 66, 96} {
		for at := range min(length, 64) {
			for b := range 256 {
				s := []byte(all[:length])
				s[at] = byte(b)
				switch {
				case !strings.Contains(right, string(s[at:at+1])):
					wrong(t, string(s), api.ErrForm)
				case length < 64:
					wrong(t, string(s), api.ErrShort)
				case length > 64:
					wrong(t, string(s), api.ErrMore)
				default:
					if d, err := Unhex(string(s)); Hex(d) != string(s) || err != api.OK {
						t.Fatalf("Unhex(%q) = %x, %v", s, d, err)
					}
				}
			}
		}
	}
}

// 3.2: behind the first 64 signs, what is there doesn't matter: there is more.
func TestUnhexBehind(t *testing.T) {
	right := Hex(Of("abc"))
	for b := range 256 {
		behind := string([]byte{byte(b)})
		wrong(t, right+behind, api.ErrMore)
		wrong(t, right+"0"+behind, api.ErrMore)
	}
	wrong(t, right[:63]+"g"+right, api.ErrForm)
	wrong(t, "\n"+right, api.ErrForm)
	wrong(t, right+"\n", api.ErrMore)
	wrong(t, right[:62]+"ä", api.ErrForm)
	wrong(t, right[:63]+"ä", api.ErrForm)
	wrong(t, right+"ä", api.ErrMore)
}

// 3.2: great letters are no signs, not one and not all.
func TestUnhexGreatLetters(t *testing.T) {
	wrong(t, strings.ToUpper(Hex(Of("abc"))), api.ErrForm)
	wrong(t, strings.Repeat("A", 64), api.ErrForm)
	wrong(t, "F", api.ErrForm)
	wrong(t, "0g", api.ErrForm)
	wrong(t, "00", api.ErrShort)
	wrong(t, "", api.ErrShort)
}

// R4: a digest that was handed in stays as it was, one that was handed out is nobody else's.
func TestHexLeavesDigests(t *testing.T) {
	d := Of("abc")
	s := Hex(d)
	if d != Of("abc") {
		t.Errorf("%x", d)
	}
	one, _ := Unhex(s)
	clear(one[:])
	if two, err := Unhex(s); two != d || err != api.OK {
		t.Errorf("%x, %v", two, err)
	}
}

package frame

import (
	"math/rand"
	"slices"
	"strings"
	"sync"
	"testing"

	"hearsay/api"
	"hearsay/message"
)

// told is a message, and its frame, written down.
type told struct {
	m api.Message
	s string
}

// toldFrames are messages of each kind with their frames; the chapter's example first.
func toldFrames() []told {
	const root = "\x00\x01\x02\x03\x04\x05\x06\x07\x08\x09\x0a\x0b\x0c\x0d\x0e\x0f\x10\x11\x12\x13\x14\x15\x16\x17\x18\x19\x1a\x1b\x1c\x1d\x1e\x1f"
	texts := strings.Repeat("t", 121)
	long := strings.Repeat("t", mostText)
	return []told{
		{api.Message{Kind: api.Ask, From: 1, To: 2, Sid: 3}, "hs\x01\x04\x01\x01\x02\x03\xde\xe51\x97"},
		{api.Message{Kind: api.Ask, From: 63, Sid: top}, "hs\x01\x06\x01\x3f\x00\x80\x80\x40\xef\xd8\xa9\x03"},
		{api.Message{Kind: api.Gone, From: 1, To: 2, Sid: 128}, "hs\x01\x05\x05\x01\x02\x80\x01\xc0\xaf\x8b\xea"},
		{api.Message{Kind: api.Bye, From: 3, Sid: 5, Turn: true}, "hs\x01\x05\x06\x03\x00\x05\x01\xfb\xa5RB"},
		{api.Message{Kind: api.Bye, From: 3, Sid: 5}, "hs\x01\x05\x06\x03\x00\x05\x00m\x95U5"},
		{api.Message{Kind: api.Body, To: 1, Sid: 1, Path: "a", Text: "xy"}, "hs\x01\x09\x04\x00\x01\x01\x01a\x02xy|6Mv"},
		{api.Message{Kind: api.Want, To: 1, Sid: 1, Root: digest(0), Path: "a/b.c"}, "hs\x01\x2a\x03\x00\x01\x01" + root + "\x05a/b.c\x08\xad\xbf\x9e"},
		{api.Message{Kind: api.Head, To: 1, Sid: 1}, "hs\x01\x26" + headAhead + "\x00\x00\x87\xbfN\x15"},
		{api.Message{Kind: api.Head, To: 1, Sid: 1, Ctx: list(5, 300), Rows: [][]api.Dot{list(0, 1), {}}}, "hs\x01\x2d" + headAhead + "\x01\x05\xac\x02\x02\x01\x00\x01\x00\xfa\x90\x8e:"},
		// A message of 127 bytes, and one that has more than a text of its own could have.
		{api.Message{Kind: api.Body, To: 1, Sid: 1, Text: texts}, "hs\x01\x7f\x04\x00\x01\x01\x00\x79" + texts + "\xb6\x05\x9eq"},
		{api.Message{Kind: api.Body, To: 1, Sid: 1, Text: long}, "hs\x01\x88\x80\x04\x04\x00\x01\x01\x00\x80\x80\x04" + long + "\xe7\xaf\xb6\xb8"},
	}
}

// 13.1, 13.2: frames as they are written down.
func TestTold(t *testing.T) {
	for _, c := range toldFrames() {
		if s, err := Seal(c.m); s != c.s || err != api.OK {
			t.Errorf("%s is sealed to %s, %v", tell(c.m), short(s), err)
		}
		if m, err := Open(c.s); !sameWords(m, c.m) || err != api.OK {
			t.Errorf("%s is opened as %s, %v", short(c.s), tell(m), err)
		}
	}
}

// 13.1: of messages that may be the frame is that of the words; none is as long as a frame may be.
func TestSealGood(t *testing.T) {
	kinds := map[int]int{}
	for _, m := range goodMessages() {
		kinds[m.Kind]++
		want, wrong := sealWords(m)
		if s, err := Seal(m); s != want || err != api.OK || wrong != api.OK || len(s) > mostFrame {
			t.Errorf("%s is sealed to %s, %v", tell(m), short(s), err)
		}
	}
	for kind := api.Ask; kind <= api.Bye; kind++ {
		if kinds[kind] < 5 {
			t.Errorf("only %d of kind %d", kinds[kind], kind)
		}
	}
}

// 13.1: the number of a message's bytes at each place where it has one byte more itself, and above MaxText.
func TestSealLengths(t *testing.T) {
	for bytes, number := range map[int]string{6: "\x06", 126: "\x7e", 127: "\x7f", 128: "\x80\x01", 129: "\x81\x01", 16383: "\xff\x7f", 16384: "\x80\x80\x01", 65535: "\xff\xff\x03", 65536: "\x80\x80\x04", 65537: "\x81\x80\x04"} {
		m := bodyOf(bytes)
		s, err := Seal(m)
		if err != api.OK || len(s) != 3+len(number)+bytes+4 || !strings.HasPrefix(s, "hs\x01"+number+"\x04\x01\x02\x03") {
			t.Errorf("%d bytes are sealed to %s, %v", bytes, short(s), err)
		}
		if got, err := Open(s); !sameWords(got, m) || err != api.OK {
			t.Errorf("%d bytes are opened as %s, %v", bytes, tell(got), err)
		}
	}
}

// 13.1, R2: of a message that may not be there is message's error, and no frame.
func TestSealBroken(t *testing.T) {
	met := map[api.Errno]int{}
	for _, c := range brokenMessages() {
		if _, err := message.Bytes(c.m); err != c.err {
			t.Fatalf("%s should be %v, by message's Bytes it is %v", tell(c.m), c.err, err)
		}
		if s, err := Seal(c.m); s != "" || err != c.err {
			t.Errorf("%s: %s, %v, not %v", tell(c.m), short(s), err, c.err)
		}
		met[c.err]++
	}
	holdMet(t, met, 2, api.ErrKind, api.ErrPeer, api.ErrCount, api.ErrForm, api.ErrPath, api.ErrSize, api.ErrOrder)
}

// wrongRow is a text that is no frame, or is in none, and why.
type wrongRow struct {
	s   string
	err api.Errno
}

// holdWrong holds that a text is opened with this error, and as nothing.
func holdWrong(t *testing.T, s string, err api.Errno) {
	t.Helper()
	if m, wrong := Open(s); !isNone(m) || wrong != err {
		t.Errorf("%s: %s, %v, not %v", short(s), tell(m), wrong, err)
	}
	holdOpen(t, s)
}

// 13.2: texts that are no frames, written down with their sums.
func TestOpenWrong(t *testing.T) {
	const ask = "hs\x01\x04\x01\x01\x02\x03\xde\xe51\x97"
	for _, c := range []wrongRow{
		{"", api.ErrSum}, {"h", api.ErrSum}, {"hs\x01", api.ErrSum}, {"\xde\xe51\x97", api.ErrSum}, {"\x00\x00\x00", api.ErrSum}, {"\x00\x00\x00\x01", api.ErrSum}, {ask[1:], api.ErrSum}, {ask[:11], api.ErrSum}, {ask[:8], api.ErrSum}, {ask + "\x00", api.ErrSum}, {ask + ask, api.ErrSum}, {"\x00" + ask, api.ErrSum},
		{"hs\x01\x04\x01\x01\x02\x03\x97\x31\xe5\xde", api.ErrSum}, {"hs\x01\x04\x01\x01\x02\x03\x00\x00\x00\x00", api.ErrSum}, {"hs\x01\x04\x01\x01\x02\x03\x21\x1a\xce\x68", api.ErrSum}, // the sum's bytes the other way, none, and its bits not turned
		{"\x00\x00\x00\x00", api.ErrShort}, // nothing, and its sum
		{sealed(ask), api.ErrMore}, {sealed(""), api.ErrShort},
	} {
		holdWrong(t, c.s, c.err)
	}
	if m, err := Open(ask); err != api.OK || isNone(m) {
		t.Errorf("%s: %s, %v", short(ask), tell(m), err)
	}
}

// 13.2: texts of up to seven bytes that have no sum behind them, or one by chance; and all of up to two bytes.
func TestOpenFewBytes(t *testing.T) {
	for _, s := range textsOf("hs\x00\x01\xff", 7) {
		holdOpen(t, s)
	}
	for a := range 256 {
		holdWrong(t, string([]byte{byte(a)}), api.ErrSum)
		for b := range 256 {
			holdWrong(t, string([]byte{byte(a), byte(b)}), api.ErrSum)
		}
	}
}

// 13.2: of texts of so many bytes: up to MaxFrame the sum is looked at first, above it nothing else.
func TestOpenSizes(t *testing.T) {
	ask := framed(askBytes)
	// All is right of these but that message's Read finds bytes behind an Ask.
	longest := sealed("hs\x01\xf6\xff\x07" + askBytes + strings.Repeat("\x00", mostFrame-14))
	above := sealed("hs\x01\xf7\xff\x07" + askBytes + strings.Repeat("\x00", mostFrame-13))
	if len(longest) != mostFrame || len(above) != mostFrame+1 {
		t.Fatal(len(longest), len(above))
	}
	for _, c := range []wrongRow{
		{longest, api.ErrMore}, {above, api.ErrSize}, {longest + "\x00", api.ErrSize}, {"\x00" + longest, api.ErrSize}, {longest[:mostFrame-1] + "~", api.ErrSum},
		{sealed("hs\x01\xf6\xff\x07" + "\x07\x01\x02\x03" + strings.Repeat("\x00", mostFrame-14)), api.ErrKind},
		{sealed("hs\x01" + "\x04" + askBytes + strings.Repeat("\x00", mostFrame-12)), api.ErrMore}, {sealed("hs\x01" + "\x04" + askBytes + strings.Repeat("\x00", mostFrame-11)), api.ErrSize},
		{sealed(strings.Repeat("h", mostFrame-4)), api.ErrForm}, {sealed(strings.Repeat("h", mostFrame-3)), api.ErrSize},
		{strings.Repeat("\x00", mostFrame-1), api.ErrSum}, {strings.Repeat("\x00", mostFrame), api.ErrSum}, {strings.Repeat("\x00", mostFrame+1), api.ErrSize}, {strings.Repeat("\xff", 10*mostFrame), api.ErrSize}, {ask + strings.Repeat("\x00", mostFrame), api.ErrSize}, {strings.Repeat(ask, 20000), api.ErrSize}, {ask + strings.Repeat("\x00", mostFrame-len(ask)), api.ErrSum},
	} {
		holdWrong(t, c.s, c.err)
	}
}

// 13.2: fewer than three bytes ahead of a right sum are too few, whatever they are.
func TestOpenShort(t *testing.T) {
	holdWrong(t, sealed(""), api.ErrShort)
	for a := range 256 {
		holdWrong(t, sealed(string([]byte{byte(a)})), api.ErrShort)
		for _, b := range []byte("hs\x00\x01\xff") {
			holdWrong(t, sealed(string([]byte{byte(a), b})), api.ErrShort)
			holdWrong(t, sealed(string([]byte{b, byte(a)})), api.ErrShort)
		}
	}
}

// 13.2: all pairs of first two bytes, ahead of a third that is right and one that is not; all third bytes.
func TestOpenLetters(t *testing.T) {
	for _, behind := range []string{"\x01\x04" + askBytes, "\x02", "\x01"} {
		for a := range 256 {
			for b := range 256 {
				if a == 'h' && b == 's' {
					continue
				}
				holdWrong(t, sealed(string([]byte{byte(a), byte(b)})+behind), api.ErrForm)
			}
		}
	}
	for third := range 256 {
		for _, behind := range []string{"", "\x04" + askBytes, "\x80\x00", "\x05" + askBytes} {
			if third != 1 {
				holdWrong(t, sealed("hs"+string([]byte{byte(third)})+behind), api.ErrKind)
			}
		}
	}
}

// 13.2: the number that is wrong, of all that may be wrong behind it the first.
func TestOpenNumber(t *testing.T) {
	most := strings.Repeat("\x00", mostFrame-10)
	for _, c := range []wrongRow{
		{"", api.ErrShort}, {"\x80", api.ErrShort}, {"\x84", api.ErrShort}, {"\xff\xff\xff\xff", api.ErrShort},
		{"\x84\x00" + askBytes, api.ErrForm}, {"\x80\x00", api.ErrForm}, {"\x84\x80\x00" + askBytes, api.ErrForm}, {"\x84\x80\x80\x80\x00" + askBytes, api.ErrForm}, {"\xff\xff\xff\xff\x00", api.ErrForm}, {"\x84\x00\x01\x01\x01\x03\x09", api.ErrForm},
		{"\x80\x80\x80\x80\x80", api.ErrSize}, {"\x84\x80\x80\x80\x80\x00" + askBytes, api.ErrSize}, {"\xff\xff\xff\xff\x7f", api.ErrSize}, {"\x80\x80\x80\x80\x04", api.ErrSize}, {"\x81\x80\x80\x80\x04", api.ErrSize},
		{"\x81\x80\x08", api.ErrSize}, {"\x81\x80\x08" + askBytes, api.ErrSize}, {"\x81\x80\x08" + most, api.ErrSize}, {"\xff\xff\x7f" + askBytes, api.ErrSize},
		{"\x80\x80\x08", api.ErrShort}, {"\x80\x80\x08" + askBytes, api.ErrShort}, {"\x80\x80\x08" + most, api.ErrShort}, {"\xff\xff\x07" + most, api.ErrShort}, // of MaxFrame, for which there is no room
		{"\x01", api.ErrShort}, {"\x05" + askBytes, api.ErrShort}, {"\x7f" + askBytes, api.ErrShort}, {"\x80\x01" + askBytes, api.ErrShort}, {"\x05\x07\x01\x01\x00", api.ErrShort}, {"\xf7\xff\x07" + most, api.ErrShort},
		{"\xf6\xff\x07" + most, api.ErrKind}, {"\xf5\xff\x07" + most, api.ErrMore}, // just all bytes, and one fewer
	} {
		holdWrong(t, sealed("hs\x01"+c.s), c.err)
	}
}

// 13.2: a number that is any other one than that of the bytes behind it.
func TestOpenEachLength(t *testing.T) {
	for _, m := range shortMessages() {
		s, _ := message.Bytes(m)
		for n := range 300 {
			want := api.OK
			if n > len(s) {
				want = api.ErrShort
			} else if n < len(s) {
				want = api.ErrMore
			}
			frame := sealed("hs\x01" + numberOf(n) + s)
			if got, err := Open(frame); err != want || (err == api.OK) != sameWords(got, m) {
				t.Errorf("%s, told as %d bytes: %s, %v, not %v", tell(m), n, tell(got), err, want)
			}
			holdOpen(t, frame)
		}
	}
}

// 13.2: bytes behind the message's bytes, whatever these are.
func TestOpenMore(t *testing.T) {
	for _, m := range goodMessages() {
		s, _ := message.Bytes(m)
		for _, behind := range []string{"\x00", "\x01", "\x80", "hs\x01", sealed(""), "\xff\xff\xff\xff\xff"} {
			holdWrong(t, sealed("hs\x01"+numberOf(len(s))+s+behind), api.ErrMore)
		}
	}
	for _, inside := range []string{"", "\x80", "\x07\x01\x02\x03", "\x01\x01\x01\x03", "\x01\x01\x02"} {
		holdWrong(t, sealed("hs\x01"+numberOf(len(inside))+inside+"\x00"), api.ErrMore)
	}
}

// 13.2: bytes that message's Read answers with an error, each of its errors among them.
func TestOpenMessage(t *testing.T) {
	met := map[api.Errno]int{}
	for _, c := range []wrongRow{
		{"", api.ErrShort}, {"\x01", api.ErrShort}, {"\x01\x01\x02", api.ErrShort}, {"\x80", api.ErrShort}, {bodyAhead + "\x01a\x02x", api.ErrShort}, {headAhead[:35], api.ErrShort}, {headAhead + "\x00", api.ErrShort},
		{"\x81\x00", api.ErrForm}, {"\x01\x81\x00\x02\x03", api.ErrForm}, {"\x06\x01\x02\x03\x02", api.ErrForm},
		{"\x01\x40\x02\x03", api.ErrSize}, {"\xff\xff\xff\xff\x7f", api.ErrSize}, {"\x01\x01\x02\x81\x80\x40", api.ErrSize}, {bodyAhead + "\x34" + strings.Repeat("a", 52) + "\x00", api.ErrSize}, {bodyAhead + "\x00\x81\x80\x04" + strings.Repeat("t", mostText+1), api.ErrSize}, {headAhead + "\x00\x41", api.ErrSize},
		{"\x00", api.ErrKind}, {"\x09", api.ErrKind}, {"\x07\x01\x02\x03", api.ErrKind},
		{headAhead + "\x01\x00\x00\x00", api.ErrCount}, {"\x01\x01\x02\x00", api.ErrCount},
		{headAhead + "\x02\x01\x01\x00\x01\x00", api.ErrOrder}, {headAhead + "\x00\x01\x02\x01\x01\x01\x01", api.ErrOrder},
		{"\x01\x01\x02\x03\x00", api.ErrMore}, {"\x06\x01\x02\x03\x01\x00", api.ErrMore}, {"\x01\x01\x01\x03\x00", api.ErrMore},
		{"\x01\x01\x01\x03", api.ErrPeer}, {"\x01\x00\x00\x00", api.ErrPeer},
		{bodyAhead + "\x01A\x00", api.ErrPath}, {"\x03\x00\x01\x01" + none + "\x02a/", api.ErrPath},
		{framed(askBytes), api.ErrKind}, // a frame in a frame
	} {
		if _, err := message.Read(c.s); err != c.err {
			t.Fatalf("%s should be %v, by message's Read it is %v", short(c.s), c.err, err)
		}
		holdWrong(t, framed(c.s), c.err)
		met[c.err]++
	}
	holdMet(t, met, 2, api.ErrShort, api.ErrForm, api.ErrSize, api.ErrKind, api.ErrCount, api.ErrOrder, api.ErrMore, api.ErrPeer, api.ErrPath)
}

// faulty is a frame with the faults of a set of bits: bit 0 is the first that the chapter names.
func faulty(faults int) string {
	has := func(fault int) bool { return faults>>fault&1 == 1 }
	third, inside, number, behind := "\x01", askBytes, "\x04", ""
	letters := "hs"
	if has(7) {
		inside = "\x01\x01\x01\x03"
	}
	if has(6) {
		behind = "\x00"
	}
	if has(5) {
		number = "\x84\x00"
	}
	if has(4) {
		third = "\x02"
	}
	if has(3) {
		letters = "hS"
	}
	s := letters + third + number + inside + behind
	if has(2) {
		s = s[:2]
	}
	s = sealed(s)
	if has(1) {
		s = s[:len(s)-1] + "~"
	}
	if has(0) {
		s += strings.Repeat("\x00", mostFrame)
	}
	return s
}

// 13.2: of all sets of faults the first, in the order in which the chapter names them.
func TestFirstFault(t *testing.T) {
	errs := []api.Errno{api.ErrSize, api.ErrSum, api.ErrShort, api.ErrForm, api.ErrKind, api.ErrForm, api.ErrMore, api.ErrPeer}
	for faults := 1; faults < 1<<len(errs); faults++ {
		first := 0
		for faults>>first&1 == 0 {
			first++
		}
		holdWrong(t, faulty(faults), errs[first])
	}
	if m, err := Open(faulty(0)); !sameWords(m, of(api.Ask)) || err != api.OK {
		t.Errorf("without a fault: %s, %v", tell(m), err)
	}
}

// 13.2, 13.3: all texts of a few bytes with a right sum, and all behind a right head, and in one, against the words.
func TestOpenSmall(t *testing.T) {
	met := map[api.Errno]int{}
	for _, s := range textsOf("hs\x00\x01\x02\x04\x80", 6) {
		met[holdOpen(t, sealed(s))]++
	}
	for _, s := range textsOf("\x00\x01\x02\x03\x04\x05\x06\x07\x80", 6) {
		met[holdOpen(t, sealed("hs\x01"+s))]++
	}
	for _, s := range textsOf("\x00\x01\x02\x03\x06\x40\x80", 6) {
		met[holdOpen(t, framed(s))]++
	}
	holdMet(t, met, 50, api.OK, api.ErrShort, api.ErrForm, api.ErrKind, api.ErrSize, api.ErrMore, api.ErrPeer, api.ErrCount)
}

// 13.2, 13.3: drawn messages' frames, changed inside with their number and sum right, inside with their sum right, and anywhere, against the words.
func TestOpenDrawn(t *testing.T) {
	draw := rand.New(rand.NewSource(131))
	met := map[api.Errno]int{}
	for range 10000 {
		s, _ := message.Bytes(drawnMessage(draw))
		met[holdOpen(t, framed(bent(draw, s)))]++
		met[holdOpen(t, sealed(bent(draw, "hs\x01"+numberOf(len(s))+s)))]++
		met[holdOpen(t, bent(draw, framed(s)))]++
	}
	holdMet(t, met, 20, api.OK, api.ErrSum, api.ErrShort, api.ErrForm, api.ErrKind, api.ErrSize, api.ErrMore, api.ErrPeer, api.ErrCount, api.ErrOrder, api.ErrPath)
}

// 13.2: frames that are cut anywhere have another sum; with a right one they are short.
func TestOpenCut(t *testing.T) {
	for _, m := range shortMessages() {
		s, _ := Seal(m)
		for length := range len(s) {
			holdWrong(t, s[:length], api.ErrSum)
			if length < len(s)-4 {
				holdWrong(t, sealed(s[:length]), api.ErrShort)
			}
		}
	}
}

// 13.3: each message that may be is opened as it was sealed.
func TestSealedIsOpened(t *testing.T) {
	draw := rand.New(rand.NewSource(132))
	all := goodMessages()
	for range 5000 {
		all = append(all, drawnMessage(draw))
	}
	for _, m := range all {
		s, err := Seal(m)
		if err != api.OK {
			t.Fatalf("%s: %v", tell(m), err)
		}
		got, err := Open(s)
		if !message.Same(got, m) || !sameWords(got, m) || err != api.OK {
			t.Fatalf("%s is opened as %s, %v", tell(m), tell(got), err)
		}
		holdOpen(t, s)
	}
}

// turned is a text whose bits are turned from a place on, by a mask of four bytes, the lowest first.
func turned(s string, at int, mask uint32) string {
	bytes := []byte(s)
	for i := at; mask != 0; i++ {
		bytes[i] ^= byte(mask)
		mask >>= 8
	}
	return string(bytes)
}

// holdTurned holds that bits that are turned are seen.
func holdTurned(t *testing.T, s string, at int, mask uint32) {
	t.Helper()
	if m, err := Open(turned(s, at, mask)); !isNone(m) || err != api.ErrSum {
		t.Fatalf("%s, turned at %d by %x: %s, %v", short(s), at, mask, tell(m), err)
	}
}

// 13.3: bits that are turned within four bytes are seen, at each place: of two short frames all that are within two bytes; of frames of all kinds each one, each two, and drawn ones.
func TestTurned(t *testing.T) {
	draw := rand.New(rand.NewSource(133))
	for _, s := range []string{framed(askBytes), framed("\x06\x03\x00\x05\x01")} {
		for at := range len(s) - 1 {
			for mask := uint32(1); mask < 1<<16; mask++ {
				holdTurned(t, s, at, mask)
			}
		}
	}
	for _, m := range shortMessages() {
		s, _ := Seal(m)
		for at := range len(s) - 3 {
			for _, mask := range []uint32{0xffffffff, 0xffffff, 0xffff, 0xff, 1 << 31, 0x80000001, 0xEDB88320, 0x04C11DB7, 0x10101010} {
				holdTurned(t, s, at, mask)
			}
			for range 300 {
				holdTurned(t, s, at, max(1, draw.Uint32()))
			}
			for bit := range 32 { // each two bits within four bytes
				for other := range bit + 1 {
					holdTurned(t, s, at, 1<<bit|1<<other)
				}
			}
		}
	}
}

// 13.3: of long frames, at drawn places.
func TestTurnedLong(t *testing.T) {
	draw := rand.New(rand.NewSource(134))
	for _, m := range []api.Message{longHead(), longBody()} {
		s, _ := Seal(m)
		for range 150 {
			holdTurned(t, s, draw.Intn(len(s)-3), max(1, draw.Uint32()))
		}
		for _, at := range []int{0, 1, 2, 3, 4, 5, len(s) - 4, len(s) - 5, len(s) - 8} {
			holdTurned(t, s, at, 1)
			holdTurned(t, s, at, 0xffffffff)
		}
	}
}

// copyOf is a message that shares no memory with another one.
func copyOf(m api.Message) api.Message {
	m.Ctx, m.Rows = slices.Clone(m.Ctx), slices.Clone(m.Rows)
	for i := range m.Rows {
		m.Rows[i] = slices.Clone(m.Rows[i])
	}
	return m
}

// roomy is a message whose lists have room behind their ends, with odd things there.
func roomy(m api.Message) api.Message {
	odd := list(77, 77)
	m.Ctx = append(slices.Clone(m.Ctx), odd...)[:len(m.Ctx)]
	m.Rows = append(slices.Clone(m.Rows), odd)[:len(m.Rows)]
	for i, row := range m.Rows {
		m.Rows[i] = append(slices.Clone(row), odd...)[:len(row)]
	}
	return m
}

// behindEnds tells whether what stands behind the ends of a roomy message's lists is there still.
func behindEnds(m api.Message) bool {
	odd := api.Dot{Peer: 77, Count: 77}
	is := m.Ctx[:len(m.Ctx)+1][len(m.Ctx)] == odd && slices.Equal(m.Rows[:len(m.Rows)+1][len(m.Rows)], list(77, 77))
	for _, row := range m.Rows {
		is = is && row[:len(row)+1][len(row)] == odd
	}
	return is
}

// scribble writes over all that a message's lists have, up to their capacity.
func scribble(m api.Message) {
	for _, v := range append([][]api.Dot{m.Ctx}, m.Rows...) {
		v = v[:cap(v)]
		for i := range v {
			v[i] = api.Dot{Peer: 1, Count: 1000}
		}
	}
	rows := m.Rows[:cap(m.Rows)]
	for i := range rows {
		rows[i] = list(2, 2000)
	}
}

// R3, R4: a message that is handed in is not changed, nor what lies behind its lists' ends, and not kept; lists without elements are none.
func TestHandedIn(t *testing.T) {
	all := goodMessages()
	for _, c := range brokenMessages() {
		all = append(all, c.m)
	}
	for _, given := range all {
		m := roomy(given)
		want, wrong := sealWords(given)
		s, err := Seal(m)
		if !sameWords(m, given) || !behindEnds(m) {
			t.Errorf("%s, handed in, is %s behind the call", tell(given), tell(m))
		}
		scribble(m)
		if s != want || err != wrong {
			t.Errorf("%s: %s, %v", tell(given), short(s), err)
		}
	}
}

// R4: what is opened is new memory, each time.
func TestHandedOut(t *testing.T) {
	for _, m := range goodMessages() {
		s, _ := Seal(m)
		first, _ := Open(s)
		second, _ := Open(s)
		before := copyOf(second)
		scribble(first)
		third, _ := Open(s)
		if !sameWords(second, before) || !sameWords(second, m) || !sameWords(third, m) {
			t.Fatalf("%s, opened again, is %s and %s when the first one is written over", tell(m), tell(second), tell(third))
		}
	}
}

// R1, R2, R5: messages and texts that are anything at all: each call ends, and answers the same again.
func TestAnything(t *testing.T) {
	draw := rand.New(rand.NewSource(135))
	odd := []int{-1 << 63, -1, 0, 1, 2, 6, 7, 63, 64, top, top + 1, 1 << 30, 1<<63 - 1}
	one := func() int { return odd[draw.Intn(len(odd))] }
	met := map[api.Errno]int{}
	for range 20000 {
		m := api.Message{Kind: draw.Intn(9) - 1, From: draw.Intn(4) - 1, To: draw.Intn(66) - 1, Sid: one(), Turn: draw.Intn(6) == 0}
		if draw.Intn(3) == 0 {
			m.Ctx, m.Rows = list(one(), one()), [][]api.Dot{list(one(), one(), one(), one())}
		}
		if draw.Intn(4) == 0 {
			m.Path = []string{"a", "A", longPath + "m"}[draw.Intn(3)]
		}
		s, err := Seal(m)
		again, _ := Seal(m)
		if want, wrong := sealWords(m); s != want || err != wrong || s != again || (s == "") != (err != api.OK) {
			t.Fatalf("%s: %s, %v, not %v", tell(m), short(s), err, wrong)
		}
		met[err]++
	}
	holdMet(t, met, 20, api.OK, api.ErrKind, api.ErrPeer, api.ErrCount, api.ErrForm, api.ErrPath, api.ErrSize)
	for range 20000 {
		bytes := make([]byte, draw.Intn(60))
		draw.Read(bytes)
		for _, s := range []string{string(bytes), sealed(string(bytes)), sealed("hs\x01" + string(bytes)), framed(string(bytes))} {
			holdOpen(t, s)
		}
	}
}

// R4, R5: many at once, on the same messages.
func TestAtOnce(t *testing.T) {
	all := goodMessages()
	var group sync.WaitGroup
	for range 4 {
		group.Go(func() {
			for _, m := range all {
				s, err := Seal(m)
				got, wrong := Open(s)
				if err != api.OK || wrong != api.OK || !sameWords(got, m) {
					t.Errorf("%s at once: %v, %v", tell(m), err, wrong)
				}
			}
		})
	}
	group.Wait()
}

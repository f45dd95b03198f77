package node

import (
	"crypto/sha256"
	"math/rand"
	"slices"
	"strconv"
	"strings"
	"sync"
	"testing"

	"hearsay/api"
	"hearsay/sha"
)

const (
	noughts = "\x00\x00\x00\x00\x00\x00\x00\x00\x00\x00\x00\x00\x00\x00\x00\x00\x00\x00\x00\x00\x00\x00\x00\x00\x00\x00\x00\x00\x00\x00\x00\x00"              // a digest's bytes
	rise    = "\x00\x01\x02\x03\x04\x05\x06\x07\x08\x09\x0a\x0b\x0c\x0d\x0e\x0f\x10\x11\x12\x13\x14\x15\x16\x17\x18\x19\x1a\x1b\x1c\x1d\x1e\xff"              // another one's
	xBytes  = "\x01\x00\x01\x00\x00\x01x"                                                                                                                     // a leaf's
	aName   = "\x01a"                                                                                                                                         // a name's
	emptyIs = "96a296d224f285c67bee93c30f8a309157f0daa35dc5b87e410b78630a09cfc7"                                                                              // the empty node's digest in hex
	aKidIs  = "\x00\x01\x01a\x00\x00\x00\x00\x00\x00\x00\x00\x00\x00\x00\x00\x00\x00\x00\x00\x00\x00\x00\x00\x00\x00\x00\x00\x00\x00\x00\x00\x00\x00\x00\x00" // a node of one kid
)

// told is a node, and its bytes, written down.
type told struct {
	n api.Node
	s string
}

// toldNodes are nodes with their bytes; the chapter's example first.
func toldNodes() []told {
	var rising api.Digest
	copy(rising[:], rise)
	x := versions(live(0, 1, "x"))
	two := versions(live(0, 2, "y", 0, 1), dead(1, 300, 0, 1))
	return []told{
		{api.Node{}, "\x00\x00"},
		{api.Node{Versions: []api.Version{}, Kids: []api.Kid{}}, "\x00\x00"},
		// Versions alone.
		{nodeOf(x, nil), xBytes + "\x00"},
		{nodeOf(versions(dead(lastPeer, top)), nil), "\x01\x3f\x80\x80\x40\x00\x01\x00\x00"},
		{nodeOf(two, nil), "\x02\x00\x02\x01\x00\x01\x00\x01y\x01\xac\x02\x01\x00\x01\x01\x00\x00"},
		// Kids alone: a name of one sign, of twelve, two.
		{nodeOf(nil, []api.Kid{{Name: "a"}}), aKidIs},
		{nodeOf(nil, []api.Kid{{Name: "abcdefghij.k", Sum: rising}}), "\x00\x01\x0cabcdefghij.k" + rise},
		{nodeOf(nil, []api.Kid{{Name: "-"}, {Name: "...", Sum: rising}}), "\x00\x02\x01-" + noughts + "\x03..." + rise},
		// Both.
		{nodeOf(x, []api.Kid{{Name: "a", Sum: rising}}), xBytes + "\x01\x01a" + rise},
		{nodeOf(two, []api.Kid{{Name: "0"}, {Name: "_9", Sum: rising}, {Name: "b"}}), "\x02\x00\x02\x01\x00\x01\x00\x01y\x01\xac\x02\x01\x00\x01\x01\x00\x03\x010" + noughts + "\x02_9" + rise + "\x01b" + noughts},
	}
}

// hold holds what the package says of a node against the words, and that it is read as it was written.
func hold(t *testing.T, n api.Node) api.Errno {
	t.Helper()
	want, wrong := bytesWords(n)
	if err := Check(n); err != wrong {
		t.Fatalf("%s is checked: %v, not %v", tell(n), err, wrong)
	}
	if s, err := Bytes(n); s != want || err != wrong {
		t.Fatalf("%s is %s, %v, not %s, %v", tell(n), short(s), err, short(want), wrong)
	}
	if got := Sum(n); got != sumWords(n) {
		t.Fatalf("%s has the digest %s", tell(n), sha.Hex(got))
	}
	if !Same(n, n) {
		t.Fatalf("%s is not the same as itself", tell(n))
	}
	if wrong != api.OK {
		return wrong
	}
	if got, err := Read(want); !sameWords(got, n) || !Same(got, n) || err != api.OK {
		t.Fatalf("%s is read as %s, %v", tell(n), tell(got), err)
	}
	return api.OK
}

// holdRead holds what is read of a text against the words, and that what is read has these bytes.
func holdRead(t *testing.T, s string) api.Errno {
	t.Helper()
	want, wrong := readWords(s)
	got, err := Read(s)
	if !sameWords(got, want) || err != wrong {
		t.Fatalf("%s is read as %s, %v, not %s, %v", short(s), tell(got), err, tell(want), wrong)
	}
	if err != api.OK {
		return err
	}
	if again, err := Bytes(got); again != s || err != api.OK {
		t.Fatalf("%s is written as %s, %v", short(s), short(again), err)
	}
	if Sum(got) != sha256.Sum256([]byte(s)) {
		t.Fatalf("%s has another digest", short(s))
	}
	return api.OK
}

// holdMet holds that each of these errors was met often.
func holdMet(t *testing.T, met map[api.Errno]int, least int, errs ...api.Errno) {
	t.Helper()
	for _, err := range errs {
		if met[err] < least {
			t.Errorf("only %d come to %v", met[err], err)
		}
	}
}

// 14.1, 14.2: nodes' bytes as they are written down, the digest of the empty one, and what they are read as.
func TestTold(t *testing.T) {
	for _, c := range toldNodes() {
		if err := Check(c.n); err != api.OK {
			t.Errorf("%s is checked: %v", tell(c.n), err)
		}
		if s, err := Bytes(c.n); s != c.s || err != api.OK {
			t.Errorf("%s is %s, %v", tell(c.n), short(s), err)
		}
		if n, err := Read(c.s); !sameWords(n, c.n) || err != api.OK {
			t.Errorf("%s is read as %s, %v", short(c.s), tell(n), err)
		}
		if Sum(c.n) != sha256.Sum256([]byte(c.s)) {
			t.Errorf("%s has the digest %s", tell(c.n), sha.Hex(Sum(c.n)))
		}
	}
	if s := sha.Hex(Sum(api.Node{})); s != emptyIs {
		t.Errorf("the empty node's digest is %s", s)
	}
}

// 14.1, 14.4: nodes that may be: with neither, with versions alone, with kids alone, with both.
func TestGood(t *testing.T) {
	met := map[[2]bool]int{}
	for _, n := range goodNodes() {
		if err := hold(t, n); err != api.OK {
			t.Errorf("%s: %v", tell(n), err)
		}
		met[[2]bool{len(n.Versions) > 0, len(n.Kids) > 0}]++
	}
	for _, both := range [][2]bool{{false, false}, {false, true}, {true, false}, {true, true}} {
		if met[both] < 3 {
			t.Errorf("only %d with versions, with kids: %v", met[both], both)
		}
	}
}

// 14.1: nodes that may not be: the error as it is written down, no bytes, and the zero digest.
func TestBroken(t *testing.T) {
	for _, c := range brokenNodes() {
		if err := hold(t, c.n); err != c.err {
			t.Errorf("%s: %v, not %v", tell(c.n), err, c.err)
		}
		if s, err := Bytes(c.n); s != "" || err != c.err {
			t.Errorf("%s is %s, %v", tell(c.n), short(s), err)
		}
		if d := Sum(c.n); d != (api.Digest{}) {
			t.Errorf("%s has the digest %s", tell(c.n), sha.Hex(d))
		}
	}
}

// 14.1: MaxEntries kids may be, one more may not.
func TestMostKids(t *testing.T) {
	for count, want := range map[int]api.Errno{0: api.OK, 1: api.OK, mostKids - 1: api.OK, mostKids: api.OK, mostKids + 1: api.ErrSize, mostKids + 2: api.ErrSize, 300: api.ErrSize} {
		k := kids(manyNames(count)...)
		if err := hold(t, nodeOf(nil, k)); err != want {
			t.Errorf("%d kids: %v", count, err)
		}
		if err := hold(t, nodeOf(versions(live(0, 1, "x")), k)); err != want {
			t.Errorf("%d kids and a version: %v", count, err)
		}
	}
}

// 14.1: each byte as a name, and at each place of one of three bytes and of one of twelve.
func TestEachSign(t *testing.T) {
	for sign := range 256 {
		s := string([]byte{byte(sign)})
		may := strings.Contains(signs, s)
		for _, name := range []string{s, s + "aa", "a" + s + "a", "aa" + s, s + "abcdefghijk", "abcdefghijk" + s, "abcdef" + s + "ghijk"} {
			want := api.OK
			if !may || name == "." {
				want = api.ErrPath
			}
			if err := hold(t, nodeOf(nil, kids(name))); err != want {
				t.Errorf("%q: %v", name, err)
			}
		}
	}
}

// 14.1: each length of a name: from 1 to 12 bytes.
func TestEachLength(t *testing.T) {
	for length := range 40 {
		want := api.OK
		if length < 1 || length > 12 {
			want = api.ErrPath
		}
		for _, sign := range []string{"a", "-", "0", "_"} {
			name := strings.Repeat(sign, length)
			if err := hold(t, nodeOf(nil, kids(name))); err != want {
				t.Errorf("%q: %v", name, err)
			}
			if err := hold(t, nodeOf(nil, kids("+", name))); err != api.ErrPath {
				t.Errorf("behind no name, %q: %v", name, err)
			}
		}
	}
}

// textsOf are all texts of up to so many bytes of a few.
func textsOf(signs string, most int) []string {
	texts, row := []string{""}, []string{""}
	for range most {
		var longer []string
		for _, s := range row {
			for i := range len(signs) {
				longer = append(longer, s+signs[i:i+1])
			}
		}
		texts, row = append(texts, longer...), longer
	}
	return texts
}

// 14.1: all pairs of small texts as names of two kids: above the one ahead, byte by byte.
func TestPairs(t *testing.T) {
	met := map[api.Errno]int{}
	for _, a := range textsOf("-.0_az/", 2) {
		for _, b := range textsOf("-.0_az/", 2) {
			n := nodeOf(nil, kids(a, b))
			want := api.OK
			switch {
			case !nameWords(a) || !nameWords(b):
				want = api.ErrPath
			case a >= b:
				want = api.ErrOrder
			}
			if err := Check(n); err != want {
				t.Fatalf("%q, %q: %v, not %v", a, b, err, want)
			}
			met[want]++
		}
	}
	holdMet(t, met, 400, api.OK, api.ErrPath, api.ErrOrder)
}

// 14.1: all rows of four of a few texts as names: what is wrong of the first kid of which something is.
func TestFirstKid(t *testing.T) {
	met := map[api.Errno]int{}
	few := []string{"", "a", "a-", "b", "A", "b/c"}
	for code := range 6 * 6 * 6 * 6 {
		names := []string{few[code%6], few[code/6%6], few[code/36%6], few[code/216]}
		met[hold(t, nodeOf(nil, kids(names...)))]++
	}
	// Only three of them are names, so that no row of four rises.
	holdMet(t, met, 30, api.ErrPath, api.ErrOrder)
	if met[api.OK] != 0 {
		t.Errorf("%d are right", met[api.OK])
	}
	for _, c := range []struct {
		names []string
		err   api.Errno
	}{
		{[]string{"b", "a", "A"}, api.ErrOrder}, {[]string{"b", "A", "a"}, api.ErrPath}, {[]string{"A", "b", "a"}, api.ErrPath}, {[]string{"b", "A"}, api.ErrPath}, {[]string{"a", ""}, api.ErrPath}, {[]string{"a", "a", "/"}, api.ErrOrder}, {[]string{"a", "/", "/"}, api.ErrPath}, {[]string{"..", ".."}, api.ErrPath}, {[]string{"b", "a", "c", "c"}, api.ErrOrder},
	} {
		if err := Check(nodeOf(nil, kids(c.names...))); err != c.err {
			t.Errorf("%q: %v, not %v", c.names, err, c.err)
		}
	}
}

// 14.1: all sets of faults, of the leaf, of the number of kids, of a name, of the order: the first is told.
func TestAllFaults(t *testing.T) {
	leaves := []brokenLeaf{{nil, api.OK}, {versions(live(0, 1, "x")), api.OK}}
	leaves = append(leaves, brokenLeaves()...)
	for _, l := range leaves {
		for set := range 8 {
			for _, at := range []int{0, 1, 60, mostKids - 2} {
				names := manyNames(mostKids)
				want := l.err
				if set&1 != 0 {
					names = manyNames(mostKids + 1)
				}
				if set&2 != 0 { // behind the one out of order, if there is one
					names[at+1] = "k/"
				}
				if set&4 != 0 {
					names[at] = "zz"
				}
				if want == api.OK {
					want = []api.Errno{api.OK, api.ErrSize, api.ErrPath, api.ErrSize, api.ErrOrder, api.ErrSize, api.ErrPath, api.ErrSize}[set]
				}
				if err := hold(t, nodeOf(l.versions, kids(names...))); err != want {
					t.Fatalf("set %d at %d, leaf %v: %v, not %v", set, at, l.err, err, want)
				}
			}
		}
	}
}

// alike are nodes each of which differs from each other one in something: in a field of a version or of a kid, in how many there are, and some that may not be.
func alike() []api.Node {
	v := live(1, 3, "hi", 0, 2)
	change := func(how func(v *api.Version)) api.Node {
		w := v
		how(&w)
		return nodeOf(versions(w), kids("a", "b"))
	}
	other := kids("a", "b")
	other[1].Sum[31]++
	first := kids("a", "b")
	first[0].Sum[0]++
	return []api.Node{
		change(func(v *api.Version) {}),
		change(func(v *api.Version) { v.Dot.Peer = 2 }), change(func(v *api.Version) { v.Dot.Count = 4 }),
		change(func(v *api.Version) { v.Past = nil }), change(func(v *api.Version) { v.Past = list(0, 1) }), change(func(v *api.Version) { v.Past = list(2, 2) }), change(func(v *api.Version) { v.Past = list(0, 2, 2, 2) }),
		change(func(v *api.Version) { v.Dead = true }), change(func(v *api.Version) { v.Data = "ho" }), change(func(v *api.Version) { v.Data = "" }), change(func(v *api.Version) { v.Data, v.Dead = "", true }), change(func(v *api.Version) { v.Dot.Peer = -1 }), change(func(v *api.Version) { v.Data = strings.Repeat("d", 100) }),
		nodeOf(versions(v), nil), nodeOf(versions(v), kids("a")), nodeOf(versions(v), kids("b")), nodeOf(versions(v), kids("a", "c")), nodeOf(versions(v), kids("b", "a")), nodeOf(versions(v), kids("A", "b")), nodeOf(versions(v), kids("", "b")), nodeOf(versions(v), kids("a", "b", "c")), nodeOf(versions(v), kids("a", "b", "b")),
		nodeOf(versions(v), other), nodeOf(versions(v), first), nodeOf(versions(v), []api.Kid{{Name: "a"}, {Name: "b"}}),
		nodeOf(nil, kids("a", "b")), nodeOf(nil, nil), nodeOf(nil, kids("a")), nodeOf(nil, kids("")),
		nodeOf(versions(v, live(2, 1, "")), kids("a", "b")), nodeOf(versions(live(0, 1, ""), v), kids("a", "b")), nodeOf(versions(v, v), kids("a", "b")), nodeOf(versions(v, live(2, 1, "")), nil), nodeOf(make([]api.Version, 65), nil), nodeOf(make([]api.Version, 66), nil), nodeOf(nil, make([]api.Kid, 129)), nodeOf(nil, make([]api.Kid, 130)),
	}
}

// 14.1: Same of all pairs of nodes that differ in one thing alone, of nodes that may not be, too; those that may be and differ have unlike bytes and digests.
func TestSame(t *testing.T) {
	met := map[string]int{}
	digests := map[api.Digest]int{}
	for i, a := range alike() {
		for j, b := range alike() {
			if Same(a, b) != (i == j) {
				t.Errorf("%s and %s: %v", tell(a), tell(b), i != j)
			}
		}
		if s, err := Bytes(a); err == api.OK {
			met[s]++
			digests[Sum(a)]++
		}
	}
	if len(met) < 20 || len(digests) != len(met) {
		t.Errorf("%d rows of bytes, %d digests", len(met), len(digests))
	}
	for s, count := range met {
		if count != 1 {
			t.Errorf("%d nodes are %s", count, short(s))
		}
	}
}

// 14.1, R3: empty lists are the same, nil or not, and come to the same bytes.
func TestSameEmpty(t *testing.T) {
	past := api.Version{Dot: dot(1, 1), Past: []api.Dot{}}
	nodes := []api.Node{nodeOf(nil, nil), nodeOf([]api.Version{}, nil), nodeOf(nil, []api.Kid{}), nodeOf([]api.Version{}, []api.Kid{}), nodeOf(make([]api.Version, 0, 5), make([]api.Kid, 0, 5))}
	for _, a := range nodes {
		for _, b := range nodes {
			s, _ := Bytes(a)
			if !Same(a, b) || s != "\x00\x00" || Sum(a) != Sum(b) || !Empty(a) {
				t.Errorf("%s and %s", tell(a), tell(b))
			}
		}
	}
	a, b := nodeOf(versions(live(1, 1, "")), nil), nodeOf(versions(past), []api.Kid{})
	if !Same(a, b) || !Same(b, a) || Sum(a) != Sum(b) {
		t.Errorf("%s and %s", tell(a), tell(b))
	}
}

// wrongRow is a text that is no node's bytes, and why.
type wrongRow struct {
	s   string
	err api.Errno
}

// 14.2: bytes that are wrong, written down.
func TestReadWrong(t *testing.T) {
	const a, b, big = aName + noughts, "\x01b" + noughts, "\x01A" + noughts
	thirteen := "abcdefghijklm"
	rows := []wrongRow{
		// It ends too early: ahead of the leaf, within it, ahead of how many kids, within a Name, within a digest, ahead of the next kid.
		{"", api.ErrShort}, {"\x80", api.ErrShort}, {"\x01", api.ErrShort}, {xBytes[:6], api.ErrShort}, {"\x00", api.ErrShort}, {xBytes, api.ErrShort}, {"\x00\x80", api.ErrShort}, {"\x00\x01", api.ErrShort}, {"\x00\x01\x80", api.ErrShort}, {"\x00\x01\x01", api.ErrShort}, {"\x00\x01\x02a", api.ErrShort}, {"\x00\x01\x01a", api.ErrShort}, {"\x00\x01" + a[:33], api.ErrShort}, {"\x00\x02" + a, api.ErrShort}, {"\x00\x02" + a + "\x01", api.ErrShort}, {"\x00\x02" + a + b[:33], api.ErrShort}, {"\x00\x80\x01" + a, api.ErrShort}, {"\x00\x01\x0cabcdefghijk", api.ErrShort}, {"\x00\x01\x00" + noughts[1:], api.ErrShort},
		// A leaf that may not be, whatever stands behind it.
		{"\x01\x00\x00\x00\x00\x00", api.ErrCount}, {"\x01\x00\x00\x00\x00\x00\x00", api.ErrCount}, {"\x01\x00\x00\x00\x00\x00\x81\x01", api.ErrCount}, {"\x01\x00\x01\x00\x01\x01x\x80\x00", api.ErrForm}, {"\x01\x00\x01\x01\x00\x01\x00\x00\x01\x01A", api.ErrOrder}, {"\x02" + xBytes[1:] + xBytes[1:] + "\x00more", api.ErrOrder}, {"\x02\x00\x01\x00\x00\x00\x01\x01\x01\x00\x01\x00\x00\x81\x01", api.ErrForm}, {"\x41\x00", api.ErrSize}, {"\x80\x00\x00", api.ErrForm}, {"\x01\x40\x01\x00\x00\x00\x00", api.ErrSize}, {"\x01\x00\x01\x00\x02\x00\x00", api.ErrForm}, {"\x01\x00\x01\x00\x00\x31" + strings.Repeat("d", 49) + "\x00", api.ErrSize}, {"\x01\x00\x01\x01\x05\x00\x00\x00\x81\x01", api.ErrCount},
		// How many kids: above MaxEntries, too large, not in its form.
		{"\x00\x81\x01", api.ErrSize}, {"\x00\x81\x01" + strings.Repeat(a, 129), api.ErrSize}, {"\x00\xff\x01", api.ErrSize}, {"\x00\x80\x80\x80\x80\x04", api.ErrSize}, {"\x00\xff\xff\xff\xff\x7f", api.ErrSize}, {"\x00\x80\x00", api.ErrForm}, {"\x00\x81\x00" + a, api.ErrForm}, {xBytes + "\x81\x01", api.ErrSize}, {xBytes + "\x81\x80\x00" + a, api.ErrForm},
		// A Name of more than MaxName bytes, or whose length is not in its form.
		{"\x00\x01\x0d", api.ErrSize}, {"\x00\x01\x0d" + thirteen + noughts, api.ErrSize}, {"\x00\x01\x34" + strings.Repeat("a", 52) + noughts, api.ErrSize}, {"\x00\x02" + a + "\x0d" + thirteen, api.ErrSize}, {"\x00\x01\x81\x00a" + noughts, api.ErrForm}, {"\x00\x02" + a + "\x80\x00" + noughts, api.ErrForm}, {"\x00\x01\x80\x80\x04", api.ErrSize},
		// Bytes behind the last kid.
		{"\x00\x00\x00", api.ErrMore}, {"\x00\x00more", api.ErrMore}, {"\x00\x01" + a + "\x00", api.ErrMore}, {"\x00\x01" + a + b, api.ErrMore}, {xBytes + "\x00\xff", api.ErrMore}, {xBytes + "\x01" + a + "\x01", api.ErrMore},
		// Kids that are read and may not be: no name, not in order.
		{"\x00\x01\x00" + noughts, api.ErrPath}, {"\x00\x01" + big, api.ErrPath}, {"\x00\x01\x01." + noughts, api.ErrPath}, {"\x00\x01\x02.." + noughts, api.ErrPath}, {"\x00\x01\x03a/b" + noughts, api.ErrPath}, {"\x00\x01\x01/" + noughts, api.ErrPath}, {"\x00\x02" + a + big, api.ErrPath}, {"\x00\x02" + big + b, api.ErrPath}, {"\x00\x02" + a + a, api.ErrOrder}, {"\x00\x02" + b + a, api.ErrOrder}, {"\x00\x03" + a + b + b, api.ErrOrder}, {xBytes + "\x02" + b + a, api.ErrOrder}, {"\x00\x02" + aName + rise + aName + noughts, api.ErrOrder},
		// Of kids that may not be what is wrong of the first one.
		{"\x00\x03" + b + a + big, api.ErrOrder}, {"\x00\x03" + big + b + a, api.ErrPath}, {"\x00\x03" + b + big + a, api.ErrPath},
		// What is read wrongly is ahead of kids that may not be, and so is what is left.
		{"\x00\x01" + big + "\x00", api.ErrMore}, {"\x00\x02" + b + a + "x", api.ErrMore}, {"\x00\x02" + big, api.ErrShort}, {"\x00\x03" + b + a, api.ErrShort}, {"\x00\x02" + big + "\x0d", api.ErrSize}, {"\x00\x03" + b + a + "\x80\x00", api.ErrForm}, {"\x00\x01\x01A" + noughts[1:], api.ErrShort}, {"\x00\x02\x00" + noughts + "\x01", api.ErrShort},
		// What is read wrongly first is told, whatever stands behind it.
		{"\x00\x02\x0d" + thirteen + "\x80\x00", api.ErrSize}, {"\x00\x02\x80\x00\x0d", api.ErrForm},
	}
	for _, c := range rows {
		if n, err := Read(c.s); !sameWords(n, api.Node{}) || err != c.err {
			t.Errorf("%s is read as %s, %v, not %v", short(c.s), tell(n), err, c.err)
		}
		holdRead(t, c.s)
	}
}

// 14.2: leaves that may not be, as far as they have bytes, ahead of kids that may be or not.
func TestReadBrokenLeaf(t *testing.T) {
	met := map[api.Errno]int{}
	for _, c := range brokenLeaves() {
		if slices.ContainsFunc(c.versions, func(v api.Version) bool { return slices.ContainsFunc(append(slices.Clone(v.Past), v.Dot), below) }) {
			continue
		}
		ahead := together(leafParts(c.versions))
		_, want := readWords(ahead + "\x00")
		for _, behind := range []string{"\x00", "\x01" + aName + noughts, "\x81\x01", "\x01\x01A" + noughts, "\x00more", "\x80\x00"} {
			if err := holdRead(t, ahead+behind); err != want || err == api.OK || err == api.ErrMore {
				t.Errorf("%s ahead of %s: %v, not %v", tell(nodeOf(c.versions, nil)), short(behind), err, want)
			}
		}
		met[want]++
	}
	holdMet(t, met, 3, api.ErrSize, api.ErrCount, api.ErrOrder, api.ErrForm)
}

// below tells whether a dot has no bytes.
func below(d api.Dot) bool {
	return d.Peer < 0 || d.Count < 0
}

// 14.2: kids that may not be, as their bytes are: those that are read come to Check's error, with bytes behind them to ErrMore.
func TestReadBrokenKids(t *testing.T) {
	met := map[api.Errno]int{}
	for i, c := range brokenKids() {
		s := together(partsOf(nodeOf(goodLeaves()[i%13], c.kids)))
		want := c.err
		for _, kid := range c.kids {
			if len(kid.Name) > mostName {
				want = api.ErrSize // as no such text is read
			}
		}
		if err := holdRead(t, s); err != want {
			t.Errorf("%s: %v, not %v", short(s), err, want)
		}
		if want != api.ErrSize {
			want = api.ErrMore
		}
		if err := holdRead(t, s+"\x00"); err != want {
			t.Errorf("%s and one more: %v, not %v", short(s), err, want)
		}
		met[c.err]++
	}
	holdMet(t, met, 5, api.ErrPath, api.ErrOrder, api.ErrSize)
}

// 14.2: all texts of up to two bytes, and of a few bytes more, against the words.
func TestReadSmall(t *testing.T) {
	met := map[api.Errno]int{}
	var all strings.Builder
	for sign := range 256 {
		all.WriteByte(byte(sign))
	}
	for _, s := range textsOf(all.String(), 2) {
		met[holdRead(t, s)]++
	}
	for _, s := range textsOf("\x00\x01\x02\x80\x0d", 6) {
		met[holdRead(t, s)]++
	}
	for _, s := range textsOf("\x00\x01x", 9) {
		met[holdRead(t, s)]++
	}
	holdMet(t, met, 1, api.OK)
	holdMet(t, met, 20, api.ErrMore, api.ErrShort, api.ErrSize, api.ErrForm, api.ErrCount, api.ErrOrder)
}

// 14.2, 14.4: all rows of up to five pieces (numbers, names, digests, kids, a leaf), and of those behind a leaf of none, against the words.
func TestReadRows(t *testing.T) {
	pieces := []string{"\x00", "\x01", "\x02", noughts, aName, aName + rise, "\x01b" + noughts, "\x01B" + noughts, xBytes}
	rows, row := []string{""}, []string{""}
	for range 5 {
		var longer []string
		for _, s := range row {
			for _, piece := range pieces {
				longer = append(longer, s+piece)
			}
		}
		rows, row = append(rows, longer...), longer
	}
	met := map[api.Errno]int{}
	for _, s := range rows {
		met[holdRead(t, s)]++
		met[holdRead(t, "\x00"+s)]++
	}
	holdMet(t, met, 10, api.OK, api.ErrMore, api.ErrShort, api.ErrSize, api.ErrPath, api.ErrOrder)
}

// wrongPart is what may stand in place of a part, and what is wrong then; nothing may stand behind what is short.
type wrongPart struct {
	s   string
	err api.Errno
}

// wrongParts are what may stand in place of a part.
func wrongParts(p part) []wrongPart {
	all := []wrongPart{{"", api.ErrShort}}
	switch p.what {
	case "digest":
		return append(all, wrongPart{p.s[:1], api.ErrShort}, wrongPart{p.s[:31], api.ErrShort})
	case "flag":
		return append(all, wrongPart{"\x02", api.ErrForm}, wrongPart{"\x80", api.ErrForm}, wrongPart{"\xff", api.ErrForm})
	}
	above := number(p.most+1, p.most).s
	all = append(all, wrongPart{"\x80", api.ErrShort}, wrongPart{"\xff\xff\xff\xff", api.ErrShort}, wrongPart{"\x80\x00", api.ErrForm}, wrongPart{"\x83\x80\x00", api.ErrForm}, wrongPart{above, api.ErrSize}, wrongPart{number(api.MaxNumber, p.most).s, api.ErrSize}, wrongPart{"\x80\x80\x80\x80\x80", api.ErrSize}, wrongPart{"\xff\xff\xff\xff\x7f", api.ErrSize})
	if p.what == "text" {
		all = append(all, wrongPart{p.s[:len(p.s)-1], api.ErrShort}, wrongPart{text(strings.Repeat("a", p.most), p.most).s[:p.most], api.ErrShort}, wrongPart{above + strings.Repeat("a", p.most+1), api.ErrSize})
	}
	return all
}

// places are the numbers below one; of many of them the first and the last ones, and some between.
func places(below int) []int {
	var all []int
	for i := range below {
		if i < 12 || i >= below-12 || i%(1+below/12) == 0 {
			all = append(all, i)
		}
	}
	return all
}

// 14.2: in place of each part of nodes (of long ones at a sample of places), each that is wrong; what stands behind it can't change that, and nothing is answered.
func TestReadEachPart(t *testing.T) {
	for _, n := range goodNodes() {
		parts := partsOf(n)
		for _, i := range places(len(parts)) {
			ahead, behind := together(parts[:i]), together(parts[i+1:])
			for _, wrong := range wrongParts(parts[i]) {
				texts := []string{ahead + wrong.s}
				if wrong.err != api.ErrShort {
					texts = append(texts, ahead+wrong.s+behind, ahead+wrong.s+strings.Repeat("\x00", 70))
				}
				for _, s := range texts {
					if got, err := Read(s); !sameWords(got, api.Node{}) || err != wrong.err {
						t.Fatalf("%s, in place of the part %d (%s) %q: %s, %v, not %v", tell(n), i, parts[i].what, wrong.s, tell(got), err, wrong.err)
					}
				}
			}
		}
	}
}

// 14.2: nodes that are cut anywhere (long ones at a sample of places) are short; with anything behind them there is more.
func TestReadCut(t *testing.T) {
	for _, n := range goodNodes() {
		s := together(partsOf(n))
		step := 1 + len(s)/100
		for length := 0; length < len(s); length += step {
			if got, err := Read(s[:length]); !sameWords(got, api.Node{}) || err != api.ErrShort {
				t.Fatalf("%s, cut behind %d bytes of %d: %s, %v", tell(n), length, len(s), tell(got), err)
			}
		}
		for _, behind := range []string{"\x00", "\x01", "\x80", "\xff", "x", s, strings.Repeat("\x00", 1000)} {
			if got, err := Read(s + behind); !sameWords(got, api.Node{}) || err != api.ErrMore {
				t.Errorf("%s ahead of %s: %s, %v", tell(n), short(behind), tell(got), err)
			}
		}
	}
}

// bent are a node's bytes, changed by a few draws.
func bent(draw *rand.Rand, s string) string {
	const edge = "\x00\x01\x02\x0c\x0d\x3f\x40\x41\x7f\x80\x81\xffa/"
	bytes := []byte(s)
	for range draw.Intn(3) {
		at, sign := draw.Intn(len(bytes)+1), edge[draw.Intn(len(edge))]
		switch draw.Intn(5) {
		case 0:
			bytes = bytes[:at]
		case 1:
			bytes = slices.Insert(bytes, at, sign)
		case 2:
			bytes = slices.Delete(bytes, max(0, at-1), at)
		default:
			if at < len(bytes) {
				bytes[at] = sign
			}
		}
	}
	return string(bytes)
}

// 14.1, 14.2, 14.4: drawn nodes are read as they were written; their bytes, changed, are held against the words.
func TestDrawn(t *testing.T) {
	draw := rand.New(rand.NewSource(14))
	met := map[api.Errno]int{}
	for range 2000 {
		n := drawnNode(draw)
		if err := hold(t, n); err != api.OK {
			t.Fatalf("%s is drawn: %v", tell(n), err)
		}
		s, _ := Bytes(n)
		for range 4 {
			met[holdRead(t, bent(draw, s))]++
		}
	}
	holdMet(t, met, 20, api.OK, api.ErrMore, api.ErrShort, api.ErrForm, api.ErrSize, api.ErrCount, api.ErrOrder, api.ErrPath)
}

// 14.1, 14.2, 14.4: drawn nodes whose kids are put out of order, doubled, or given another name, as nodes and as bytes.
func TestDrawnKids(t *testing.T) {
	draw := rand.New(rand.NewSource(141))
	met := map[api.Errno]int{}
	broken := brokenNames()
	for range 3000 {
		n := drawnNode(draw)
		for range draw.Intn(3) {
			if len(n.Kids) == 0 {
				break
			}
			at, other := draw.Intn(len(n.Kids)), draw.Intn(len(n.Kids))
			switch draw.Intn(4) {
			case 0:
				n.Kids[at], n.Kids[other] = n.Kids[other], n.Kids[at]
			case 1:
				n.Kids = slices.Insert(n.Kids, at, n.Kids[other])
			case 2:
				n.Kids[at].Name = broken[draw.Intn(len(broken)-1)]
			default:
				n.Kids[at].Name = drawnName(draw)
			}
		}
		met[hold(t, n)]++
		if err := holdRead(t, together(partsOf(n))); err == api.ErrMore || err == api.ErrShort || err == api.ErrForm {
			t.Fatalf("%s: %v", tell(n), err)
		}
	}
	holdMet(t, met, 20, api.OK, api.ErrOrder, api.ErrPath)
}

// 14.3: Seen of a row of versions, of which each set is Dead; the kids are as they were, and what is seen may be, and is seen as it is.
func TestSeen(t *testing.T) {
	k := kids("a", "b.c")
	for count := range 7 {
		for set := range 1 << count {
			var all, alive []api.Version
			for i := range count {
				v := live(i*9, 5+i, "data"+strconv.Itoa(i), 60, 1+i)
				if set>>i&1 != 0 {
					all = append(all, dead(i*9, 5+i, 60, 1+i))
					continue
				}
				all, alive = append(all, v), append(alive, v)
			}
			for _, of := range [][]api.Kid{nil, k} {
				n, want := nodeOf(all, of), nodeOf(alive, of)
				seen := Seen(n)
				if !sameWords(seen, want) || Check(seen) != api.OK {
					t.Fatalf("of %s %s is seen", tell(n), tell(seen))
				}
				if again := Seen(seen); !sameWords(again, want) {
					t.Fatalf("of %s %s is seen again", tell(n), tell(again))
				}
				if Empty(seen) != (len(alive) == 0 && of == nil) {
					t.Fatalf("%s is empty: %v", tell(seen), Empty(seen))
				}
			}
		}
	}
}

// 14.3: Seen of nodes of each kind; of one that may not be, too, what is not Dead stays as it stands, and all kids.
func TestSeenAll(t *testing.T) {
	all := append(goodNodes(), alike()...)
	for _, c := range brokenNodes() {
		all = append(all, c.n)
	}
	for _, n := range all {
		if seen := Seen(n); !sameWords(seen, seenWords(n)) {
			t.Errorf("of %s %s is seen", tell(n), tell(seen))
		}
	}
	if seen := Seen(nodeOf(versions(dead(5, 1), live(2, 1, "x"), dead(0, 0), live(2, 1, "y")), kids("b", "a", "/"))); !sameWords(seen, nodeOf(versions(live(2, 1, "x"), live(2, 1, "y")), kids("b", "a", "/"))) {
		t.Errorf("%s is seen", tell(seen))
	}
}

// 14.3: Empty: with neither, with versions alone (Dead ones, too), with kids alone, with both; of nodes that may not be, too.
func TestEmpty(t *testing.T) {
	for _, n := range []api.Node{{}, nodeOf([]api.Version{}, nil), nodeOf(nil, []api.Kid{}), nodeOf([]api.Version{}, []api.Kid{}), Seen(nodeOf(versions(dead(0, 1)), nil))} {
		if !Empty(n) {
			t.Errorf("%s is not empty", tell(n))
		}
	}
	for _, n := range []api.Node{nodeOf(versions(live(0, 1, "")), nil), nodeOf(versions(dead(0, 1)), nil), nodeOf(make([]api.Version, 1), nil), nodeOf(nil, kids("a")), nodeOf(nil, make([]api.Kid, 1)), nodeOf(versions(live(0, 1, "x")), kids("a")), nodeOf(versions(dead(0, 1)), []api.Kid{}), nodeOf([]api.Version{}, kids("a")), Seen(nodeOf(versions(dead(0, 1)), kids("a")))} {
		if Empty(n) {
			t.Errorf("%s is empty", tell(n))
		}
	}
}

// 14.4: there is one row of bytes of each: all sets of four names with one of two digests each, and small leaves.
func TestUnlikeBytes(t *testing.T) {
	met := map[string]api.Node{}
	leaves := [][]api.Version{nil, versions(live(0, 1, "")), versions(dead(0, 1)), versions(live(0, 1, "\x00")), versions(live(0, 1, "\x00\x01")), versions(live(0, 1, "", 1, 1)), versions(live(0, 1, ""), live(1, 1, ""))}
	names := []string{"a", "aa", "aaa", "b"}
	for code := range 81 {
		var k []api.Kid
		for i, rest := 0, code; i < 4; i, rest = i+1, rest/3 {
			if rest%3 > 0 {
				k = append(k, api.Kid{Name: names[i], Sum: digest(rest % 3)})
			}
		}
		for _, l := range leaves {
			n := nodeOf(l, k)
			s, err := Bytes(n)
			if ahead, is := met[s]; is || err != api.OK {
				t.Errorf("%s is %s, %v, as is %s", tell(n), short(s), err, tell(ahead))
			}
			met[s] = n
			hold(t, n)
		}
	}
	if len(met) != 81*7 {
		t.Errorf("%d rows of bytes", len(met))
	}
}

// odd is what stands behind lists' ends.
func odd() (api.Version, api.Kid, api.Dot) {
	return api.Version{Dot: dot(77, 77), Data: "odd"}, api.Kid{Name: "odd/", Sum: digest(77)}, dot(77, 77)
}

// copyOf is a node that shares no memory with another one.
func copyOf(n api.Node) api.Node {
	n.Versions, n.Kids = slices.Clone(n.Versions), slices.Clone(n.Kids)
	for i := range n.Versions {
		n.Versions[i].Past = slices.Clone(n.Versions[i].Past)
	}
	return n
}

// roomy is a node whose lists have room behind their ends, with odd things there.
func roomy(n api.Node) api.Node {
	v, k, d := odd()
	n.Versions = append(slices.Clone(n.Versions), v)[:len(n.Versions)]
	n.Kids = append(slices.Clone(n.Kids), k)[:len(n.Kids)]
	for i, of := range n.Versions {
		n.Versions[i].Past = append(slices.Clone(of.Past), d)[:len(of.Past)]
	}
	return n
}

// behindEnds tells whether what stands behind the ends of a roomy node's lists is there still.
func behindEnds(n api.Node) bool {
	v, k, d := odd()
	last := n.Versions[:len(n.Versions)+1][len(n.Versions)]
	is := last.Dot == v.Dot && last.Data == v.Data && n.Kids[:len(n.Kids)+1][len(n.Kids)] == k
	for _, of := range n.Versions {
		is = is && of.Past[:len(of.Past)+1][len(of.Past)] == d
	}
	return is
}

// scribble writes over all that a node's lists have, up to their capacity.
func scribble(n api.Node) {
	l, k := n.Versions[:cap(n.Versions)], n.Kids[:cap(n.Kids)]
	for i := range l {
		past := l[i].Past[:cap(l[i].Past)]
		for j := range past {
			past[j] = dot(1, 1000)
		}
		l[i] = live(3, 3000, "over")
	}
	for i := range k {
		k[i] = api.Kid{Name: "over", Sum: digest(99)}
	}
}

// R4: no call changes a node that is handed in, nor what lies behind its lists' ends.
func TestHandedIn(t *testing.T) {
	all := append(goodNodes(), alike()...)
	for _, c := range brokenNodes() {
		all = append(all, c.n)
	}
	for _, given := range all {
		n := roomy(given)
		before, other := copyOf(n), roomy(given)
		Check(n)
		Bytes(n)
		Sum(n)
		Same(n, other)
		Seen(n)
		Empty(n)
		if !sameWords(n, before) || !behindEnds(n) || !sameWords(other, before) || !behindEnds(other) {
			t.Errorf("%s was changed: %s, %s", tell(before), tell(n), tell(other))
		}
	}
}

// R4: what is seen shares no memory with what it is seen of, nor with what is seen again.
func TestSeenIsNew(t *testing.T) {
	all := goodNodes()
	for _, c := range brokenNodes() {
		if len(c.n.Versions) <= 65 {
			all = append(all, c.n)
		}
	}
	for _, given := range all {
		n := roomy(given)
		before, want := copyOf(n), copyOf(seenWords(n))
		first, second := Seen(n), Seen(n)
		scribble(first)
		if !sameWords(n, before) || !behindEnds(n) || !sameWords(second, want) {
			t.Errorf("%s is %s and seen as %s, when what was seen is written over", tell(before), tell(n), tell(second))
		}
		scribble(n)
		if !sameWords(second, want) {
			t.Errorf("of %s, written over, %s is seen", tell(before), tell(second))
		}
		holdApart(t, second)
	}
}

// R4: what is read is new memory: written over, it changes neither what is read again nor another list of the same node.
func TestReadIsNew(t *testing.T) {
	for _, want := range goodNodes() {
		s := together(partsOf(want))
		first, _ := Read(s)
		second, _ := Read(s)
		scribble(first)
		third, _ := Read(s)
		if !sameWords(second, want) || !sameWords(third, want) {
			t.Errorf("%s is read as %s and %s, when another one was written over", tell(want), tell(second), tell(third))
		}
		holdApart(t, second)
	}
}

// holdApart holds that no Past of a node's versions is another one's, too.
func holdApart(t *testing.T, n api.Node) {
	t.Helper()
	for i, v := range n.Versions {
		rest := copyOf(n)
		past := v.Past[:cap(v.Past)]
		for j := range past {
			past[j] = dot(2, 2000)
		}
		n.Versions[i], rest.Versions[i] = api.Version{}, api.Version{}
		if !sameWords(n, rest) {
			t.Fatalf("%s: the Past of %d is another one's, too", tell(rest), i)
		}
	}
}

// R1: calls of very long lists and texts come to an end soon.
func TestLong(t *testing.T) {
	long := nodeOf(make([]api.Version, 1<<20), make([]api.Kid, 1<<20))
	for range 20 {
		if err := Check(long); err != api.ErrSize {
			t.Errorf("long lists: %v", err)
		}
		if err := Check(nodeOf(nil, long.Kids)); err != api.ErrSize {
			t.Errorf("a long list of kids: %v", err)
		}
		if s, err := Bytes(nodeOf(nil, long.Kids)); s != "" || err != api.ErrSize {
			t.Errorf("a long list of kids: %s, %v", short(s), err)
		}
	}
	if !Same(long, copyOf(long)) || Empty(long) || len(Seen(long).Kids) != 1<<20 {
		t.Errorf("long lists are others")
	}
	text := strings.Repeat("\x00", 1<<22)
	for ahead, want := range map[string]api.Errno{"": api.ErrMore, "\x00\x80\x01": api.ErrMore, "\x41": api.ErrSize, "\x40": api.ErrCount, "\x00\x81\x01": api.ErrSize, "\x00\x01\x0d": api.ErrSize} {
		if n, err := Read(ahead + text); !sameWords(n, api.Node{}) || err != want {
			t.Errorf("%q ahead of a long text: %s, %v", ahead, tell(n), err)
		}
	}
}

// R1, R5: many nodes, at once, come to the same as one behind the other.
func TestManyAtOnce(t *testing.T) {
	all := goodNodes()
	for _, c := range brokenNodes() {
		if len(c.n.Versions) < 1000 && len(c.n.Kids) < 1000 {
			all = append(all, c.n)
		}
	}
	var each sync.WaitGroup
	for range 4 {
		each.Go(func() {
			for _, n := range all {
				want, wrong := bytesWords(n)
				if s, err := Bytes(n); s != want || err != wrong || Sum(n) != sumWords(n) {
					t.Errorf("%s is something else: %v", tell(n), err)
				}
				if got, err := Read(want); wrong == api.OK && (err != api.OK || !Same(got, n)) {
					t.Errorf("%s is read as something else: %v", tell(n), err)
				}
				if !Same(Seen(n), seenWords(n)) {
					t.Errorf("of %s something else is seen", tell(n))
				}
			}
		})
	}
	each.Wait()
}

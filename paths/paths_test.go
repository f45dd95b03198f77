package paths

import (
	"cmp"
	"math/rand"
	"regexp"
	"slices"
	"strings"
	"sync"
	"testing"

	"hearsay/api"
)

const (
	name12 = "abcdefghijkl"
	name13 = "abcdefghijklm"
)

// longest is the longest path there is: 51 bytes.
var longest = strings.Join([]string{name12, "0123456789ab", "a.b_c-d.e_f-", "............"}, "/")

var nameForm = regexp.MustCompile(`\A[a-z0-9._-]{1,12}\z`)

// nameWords tells by the chapter's words whether a text is a name.
func nameWords(s string) bool {
	return nameForm.MatchString(s) && s != "." && s != ".."
}

// partsWords are a path's names by the chapter's words.
func partsWords(s string) []string {
	pieces := strings.Split(s, "/")
	if len(pieces) > 4 || slices.ContainsFunc(pieces, func(p string) bool { return !nameWords(p) }) {
		return nil
	}
	return pieces
}

// checkWords is what Check answers by the chapter's words.
func checkWords(s string) api.Errno {
	switch {
	case len(s) > 51:
		return api.ErrSize
	case partsWords(s) == nil:
		return api.ErrPath
	}
	return api.OK
}

// underWords is what Under answers by the chapter's words.
func underWords(s, dir string) bool {
	names, ahead := partsWords(s), partsWords(dir)
	if names == nil || dir != "" && ahead == nil || len(names) <= len(ahead) {
		return false
	}
	return slices.Equal(names[:len(ahead)], ahead)
}

// compareWords is what Compare answers by the chapter's words.
func compareWords(a, b string) int {
	return slices.CompareFunc(strings.Split(a, "/"), strings.Split(b, "/"), func(x, y string) int {
		return slices.Compare([]byte(x), []byte(y))
	})
}

// short are all texts of up to four signs of those that matter.
func short() []string {
	list, last := []string{""}, []string{""}
	for range 4 {
		var next []string
		for _, s := range last {
			for _, sign := range []string{"/", ".", "a", "b", "-", "A"} {
				next = append(next, s+sign)
			}
		}
		list, last = append(list, next...), next
	}
	return list
}

// edges are texts at and past the limits, and wrong ones.
func edges() []string {
	list := []string{
		"a", "z", "0", "9", "_", "-", "...", "....", ".a", "..a", "a..", "a.", "a/b.c", "a/b/c/d", "a/b/c/d/e", "a/b/c/d/", "/a/b/c/d",
		"a//b", "/a", "a/", "a/..", "../a", "a/./b", "a/../b", "//", "a//", "//a", "a/b/", "a/b//", "A", "aB", "a/B", "Ab/c", "a b", " ", "a\n", "\na", "a\x00",
		"ä", "a/ä", "\xff", "\x80", "a\\b", "a/\xc3", "\u212a", "\uff0f", "\u2215",
		name12, name13, name12 + "/" + name12, name12 + "/" + name13, name13 + "/a", "a/" + name13, "a/b/c/" + name13, name13 + "/b/c/d",
		longest, longest + "a", longest + "/", "/" + longest, longest + "/a", longest[:50], longest[1:], longest[:50] + "A", longest[:50] + "/", "/" + longest[1:],
		strings.Repeat("a", 51), strings.Repeat("a", 52), strings.Repeat("a/", 25) + "a", strings.Repeat("/", 51), strings.Repeat("/", 52), strings.Repeat("A", 52),
		strings.Repeat("a", 1000), strings.Repeat("a/", 1000), strings.Repeat("/", 1000), strings.Repeat("A", 1000),
	}
	for b := range 256 {
		one := string([]byte{byte(b)})
		list = append(list, one, one+"x", "x"+one, "x"+one+"y", "a/"+one, one+"/a", "a/x"+one+"/b", longest[:50]+one)
	}
	return list
}

// drawn are texts of pieces and signs drawn, always the same.
func drawn(seed int64, count int) []string {
	draw := rand.New(rand.NewSource(seed))
	pieces := []string{"a", "b", "ab", "a.b", "a-b", "a0", "..", ".", "...", "", "A", name12, name13, "_", "z\xff", "a\x00"}
	var list []string
	for range count {
		parts := make([]string, 1+draw.Intn(5))
		for i := range parts {
			parts[i] = pieces[draw.Intn(1+draw.Intn(len(pieces)))]
		}
		list = append(list, strings.Join(parts, "/"))
	}
	return list
}

// texts are all of these.
func texts() []string {
	return slices.Concat(short(), edges(), drawn(1, 3000))
}

// 4.1: names and others, written down.
func TestNameTable(t *testing.T) {
	for s, want := range map[string]bool{
		"a": true, "z": true, "0": true, "9": true, "-": true, "_": true, "...": true, "..a": true, ".a": true, "a.": true, "b.c": true,
		name12: true, "............": true, "a-b_c.d0": true,
		"": false, ".": false, "..": false, name13: false, ".............": false, "A": false, "Z": false, "a/b": false, "/": false, "a/": false, "/a": false,
		"`": false, "{": false, ":": false, ",": false, "a b": false, "\x00": false, "\x7f": false, "\xff": false, "ä": false, "a\n": false,
	} {
		if got := Name(s); got != want {
			t.Errorf("Name(%q) = %v", s, got)
		}
	}
}

// 4.1: each byte alone, and at each place of a name of twelve.
func TestNameBytes(t *testing.T) {
	const may = "abcdefghijklmnopqrstuvwxyz0123456789._-"
	for b := range 256 {
		one := string([]byte{byte(b)})
		want := strings.Contains(may, one)
		if got := Name(one); got != (want && one != ".") {
			t.Errorf("Name(%q) = %v", one, got)
		}
		for at := range len(name12) {
			s := name12[:at] + one + name12[at+1:]
			if got := Name(s); got != want {
				t.Errorf("Name(%q) = %v", s, got)
			}
		}
	}
}

// 4.1: names of each length.
func TestNameLengths(t *testing.T) {
	for length := range 100 {
		for _, sign := range []string{"a", ".", "-"} {
			want := length >= 1 && length <= 12 && (sign != "." || length > 2)
			if got := Name(strings.Repeat(sign, length)); got != want {
				t.Errorf("Name of %d times %q = %v", length, sign, got)
			}
		}
	}
}

// 4.1: paths and others, the chapter's among them; too many bytes are told ahead of all else (R2).
func TestCheckTable(t *testing.T) {
	for s, want := range map[string]api.Errno{
		"a/b.c": api.OK, "a": api.OK, "a/b/c/d": api.OK, ".../..a": api.OK, longest: api.OK, longest[:50]: api.OK,
		"a//b": api.ErrPath, "/a": api.ErrPath, "a/..": api.ErrPath, "A": api.ErrPath, "": api.ErrPath, "/": api.ErrPath, "a/": api.ErrPath,
		"a/b/c/d/e": api.ErrPath, "a/b/c/d/": api.ErrPath, "./a": api.ErrPath, name13: api.ErrPath, "a/" + name13: api.ErrPath,
		strings.Repeat("a", 51): api.ErrPath, strings.Repeat("/", 51): api.ErrPath, longest[:50] + "/": api.ErrPath, longest[:50] + "\xff": api.ErrPath,
		longest + "a": api.ErrSize, longest + "/": api.ErrSize, strings.Repeat("A", 52): api.ErrSize, strings.Repeat("/", 52): api.ErrSize,
		strings.Repeat("a/", 26): api.ErrSize, strings.Repeat("\x00", 1<<20): api.ErrSize,
	} {
		if got := Check(s); got != want {
			t.Errorf("Check(%q) = %v, not %v", s, got, want)
		}
	}
	if len(longest) != 51 {
		t.Fatalf("the longest path has %d bytes", len(longest))
	}
}

// 4.1: the root is no path, and has no parts.
func TestRoot(t *testing.T) {
	if e := Check(""); e != api.ErrPath {
		t.Errorf("Check of the root: %v", e)
	}
	if Name("") || len(Parts("")) != 0 || Up("") != "" || Last("") != "" {
		t.Error("the root is taken for a path")
	}
}

// 4.1, 4.2: all texts against the chapter's words, and the same again (R5).
func TestAgainstWords(t *testing.T) {
	for _, s := range texts() {
		for range 2 {
			if got, want := Name(s), nameWords(s); got != want {
				t.Fatalf("Name(%q) = %v", s, got)
			}
			if got, want := Check(s), checkWords(s); got != want {
				t.Fatalf("Check(%q) = %v, not %v", s, got, want)
			}
			want := partsWords(s)
			if got := Parts(s); !slices.Equal(got, want) {
				t.Fatalf("Parts(%q) = %q, not %q", s, got, want)
			}
			up, last := "", ""
			if len(want) > 0 {
				up, last = strings.Join(want[:len(want)-1], "/"), want[len(want)-1]
			}
			if got := Up(s); got != up {
				t.Fatalf("Up(%q) = %q, not %q", s, got, up)
			}
			if got := Last(s); got != last {
				t.Fatalf("Last(%q) = %q, not %q", s, got, last)
			}
		}
	}
}

// 4.1: paths of some names, and lists of which there is none.
func TestJoinTable(t *testing.T) {
	for _, c := range []struct {
		parts []string
		path  string
		err   api.Errno
	}{
		{[]string{"a"}, "a", api.OK},
		{[]string{"a", "b.c"}, "a/b.c", api.OK},
		{[]string{"a", "b", "c", "d"}, "a/b/c/d", api.OK},
		{[]string{"...", "-"}, ".../-", api.OK},
		{[]string{name12, name12, name12, name12}, strings.Repeat(name12+"/", 3) + name12, api.OK},
		{nil, "", api.ErrPath},
		{[]string{}, "", api.ErrPath},
		{[]string{""}, "", api.ErrPath},
		{[]string{"", ""}, "", api.ErrPath},
		{[]string{"a", ""}, "", api.ErrPath},
		{[]string{"", "a"}, "", api.ErrPath},
		{[]string{"a", "b", "c", "d", "e"}, "", api.ErrPath},
		{[]string{"a", "b", "c", "d", ""}, "", api.ErrPath},
		{[]string{"a/b"}, "", api.ErrPath},
		{[]string{"a/b", "c"}, "", api.ErrPath},
		{[]string{"a", "b/c"}, "", api.ErrPath},
		{[]string{"a/"}, "", api.ErrPath},
		{[]string{"/a"}, "", api.ErrPath},
		{[]string{"/"}, "", api.ErrPath},
		{[]string{"a", "."}, "", api.ErrPath},
		{[]string{"..", "a"}, "", api.ErrPath},
		{[]string{"A"}, "", api.ErrPath},
		{[]string{"a", "\xff"}, "", api.ErrPath},
		{[]string{name13}, "", api.ErrPath},
		{[]string{"a", "b", "c", name13}, "", api.ErrPath},
		{[]string{name13, name13, name13, name13}, "", api.ErrPath},
		{[]string{strings.Repeat("a", 60)}, "", api.ErrPath},
		{make([]string, 1000), "", api.ErrPath},
		{strings.Split(strings.Repeat("a", 1000), ""), "", api.ErrPath},
	} {
		if path, e := Join(c.parts); path != c.path || e != c.err {
			t.Errorf("Join(%q) = %q, %v, not %q, %v", c.parts, path, e, c.path, c.err)
		}
	}
}

// 4.1: lists of all lengths and of all kinds of pieces, against the chapter's words.
func TestJoinAgainstWords(t *testing.T) {
	draw := rand.New(rand.NewSource(2))
	pieces := []string{"a", "b", "ab", name12, "...", "x_-.", "0", "a/b", "", ".", "..", "A", name13, "/", "\x80"}
	for range 5000 {
		parts := make([]string, draw.Intn(7))
		for i := range parts {
			parts[i] = pieces[draw.Intn(1+draw.Intn(len(pieces)))]
		}
		path, err := "", api.ErrPath
		if len(parts) >= 1 && len(parts) <= 4 && !slices.ContainsFunc(parts, func(p string) bool { return !nameWords(p) }) {
			path, err = strings.Join(parts, "/"), api.OK
		}
		if got, e := Join(parts); got != path || e != err {
			t.Fatalf("Join(%q) = %q, %v, not %q, %v", parts, got, e, path, err)
		}
	}
}

// 4.2: directories and names, written down.
func TestUpAndLastTable(t *testing.T) {
	for _, c := range []struct{ s, up, last string }{
		{"a", "", "a"},
		{"a/b", "a", "b"},
		{"a/b/c", "a/b", "c"},
		{"a/b/c/d", "a/b/c", "d"},
		{"a.b/...", "a.b", "..."},
		{longest, longest[:38], longest[39:]},
		{"", "", ""}, {"/", "", ""}, {"/a", "", ""}, {"a/", "", ""}, {"a//b", "", ""}, {"a/..", "", ""}, {"a/.", "", ""},
		{"A", "", ""}, {"a/B", "", ""}, {"A/b", "", ""}, {"a/b/c/d/e", "", ""}, {longest + "a", "", ""}, {"a/" + name13, "", ""},
	} {
		if up, last := Up(c.s), Last(c.s); up != c.up || last != c.last {
			t.Errorf("of %q: %q and %q, not %q and %q", c.s, up, last, c.up, c.last)
		}
	}
}

// 4.2: what is under what, written down.
func TestUnderTable(t *testing.T) {
	for _, c := range []struct {
		s, dir string
		want   bool
	}{
		{"a/b", "a", true}, {"a/b/c", "a", true}, {"a/b/c", "a/b", true}, {"a/b/c/d", "a/b/c", true}, {"a", "", true}, {"a/b/c/d", "", true},
		{longest, longest[:38], true}, {longest, longest[:12], true}, {longest, "", true},
		{"a", "a", false}, {"a/b", "a/b", false}, {longest, longest, false}, {"", "", false}, {"a", "a/b", false}, {"", "a", false},
		{"ab", "a", false}, {"ab/c", "a", false}, {"a.b", "a", false}, {"a-/b", "a", false}, {"a/bc", "a/b", false}, {"b/a", "a", false}, {"a/b", "b", false},
		{"a/b", "a/", false}, {"a/b", "/", false}, {"a/b", "/a", false}, {"/a", "", false}, {"/a", "/", false}, {"a/", "a", false}, {"a//b", "a", false},
		{"a//b", "a/", false}, {"a/b/", "a/b", false}, {"a/b/", "a", false}, {"A/b", "A", false}, {"a/B", "a", false}, {"a", "A", false}, {"A", "", false},
		{"../a", "..", false}, {"a/..", "a", false}, {"./a", ".", false}, {"a/b/c/d/e", "a", false}, {"a/b/c/d/e", "a/b/c/d", false}, {longest + "a", "", false},
		{name13 + "/a", name13, false}, {"a/" + name13, "a", false},
	} {
		if got := Under(c.s, c.dir); got != c.want {
			t.Errorf("Under(%q, %q) = %v", c.s, c.dir, got)
		}
	}
}

// 4.2: all pairs of some texts, against the chapter's words.
func TestUnderAgainstWords(t *testing.T) {
	list := slices.Concat(short()[:300], edges()[:70], drawn(3, 300))
	under := 0
	for _, s := range list {
		for _, dir := range list {
			want := underWords(s, dir)
			if got := Under(s, dir); got != want {
				t.Fatalf("Under(%q, %q) = %v", s, dir, got)
			}
			if want {
				under++
			}
		}
	}
	if under < 500 {
		t.Errorf("%d pairs alone are such that one is under the other", under)
	}
}

// 4.2: what stands ahead of any slash of a path, and nothing else of its beginnings, is a directory that it is under.
func TestUnderBeginnings(t *testing.T) {
	for _, s := range []string{"a", "a/b", "ab/cd/ef", "a/b/c/d", longest} {
		for end := 0; end <= len(s); end++ {
			want := end == 0 || end < len(s) && s[end] == '/'
			if got := Under(s, s[:end]); got != want {
				t.Errorf("Under(%q, %q) = %v", s, s[:end], got)
			}
		}
	}
}

// 4.3: orders written down, the chapter's among them.
func TestCompareTable(t *testing.T) {
	for _, c := range []struct {
		a, b string
		want int
	}{
		{"a/b", "a-b", -1}, {"a/b", "a.b", -1}, {"a", "a/b", -1}, {"a/b", "a/b/c", -1}, {"a/z", "b", -1}, {"a", "b", -1}, {"a", "ab", -1}, {"a/b", "ab", -1},
		{"", "a", -1}, {"", "/", -1}, {"/", "a", -1}, {"/", "//", -1}, {"//", "/a", -1}, {"/a", "a", -1}, {"a", "a/", -1}, {"a/", "a/a", -1}, {"a/", "a//", -1}, {"a//b", "a/-", -1},
		{"a/b", "a\x00", -1}, {"/", "\x00", -1}, {"a/\xff", "a\x00", -1}, {"a\x00/b", "a\x00\x00", -1}, {"A", "a", -1}, {"Z", "a", -1}, {"z", "\x80", -1}, {"\x7f", "\xff", -1}, {"a-", "a.", -1}, {"a.", "a0", -1},
		{"a/b/c/d/e", "a/b/c/d/f", -1}, {longest, longest + "a", -1}, {strings.Repeat("a/", 100), strings.Repeat("a/", 101), -1},
		{"", "", 0}, {"/", "/", 0}, {"x", "x", 0}, {"a//b/", "a//b/", 0}, {longest, longest, 0}, {"\xff/\x00", "\xff/\x00", 0},
	} {
		if got := Compare(c.a, c.b); got != c.want {
			t.Errorf("Compare(%q, %q) = %d, not %d", c.a, c.b, got, c.want)
		}
		if got := Compare(c.b, c.a); got != -c.want {
			t.Errorf("Compare(%q, %q) = %d, not %d", c.b, c.a, got, -c.want)
		}
	}
}

// 4.3: all pairs of some texts, against the chapter's words.
func TestCompareAgainstWords(t *testing.T) {
	list := slices.Concat(short()[:300], edges()[:70], drawn(4, 400))
	for _, a := range list {
		for _, b := range list {
			if got, want := Compare(a, b), compareWords(a, b); got != want {
				t.Fatalf("Compare(%q, %q) = %d, not %d", a, b, got, want)
			}
		}
	}
}

// 4.3: each byte against each other one, alone and behind a piece: a slash ends a piece, and so stands ahead of all others.
func TestCompareBytes(t *testing.T) {
	rank := func(b int) int {
		if b == '/' {
			return -1
		}
		return b
	}
	for a := range 256 {
		for b := range 256 {
			x, y := string([]byte{byte(a)}), string([]byte{byte(b)})
			want := cmp.Compare(rank(a), rank(b))
			if got := Compare("p"+x, "p"+y); got != want {
				t.Fatalf("Compare(%q, %q) = %d", "p"+x, "p"+y, got)
			}
			if got := Compare("p/q"+x+"r", "p/q"+y+"r"); got != want {
				t.Fatalf("Compare(%q, %q) = %d", "p/q"+x+"r", "p/q"+y+"r", got)
			}
		}
	}
}

// 4.4: Parts and Join undo one another.
func TestPartsAndJoin(t *testing.T) {
	paths := 0
	for _, s := range texts() {
		parts := Parts(s)
		path, e := Join(parts)
		if Check(s) == api.OK {
			paths++
			if path != s || e != api.OK {
				t.Fatalf("of %q: %q, %v", s, path, e)
			}
		} else if len(parts) != 0 || path != "" || e != api.ErrPath {
			t.Fatalf("of %q: %q, %q, %v", s, parts, path, e)
		}
	}
	if paths < 500 {
		t.Errorf("%d texts alone are paths", paths)
	}
	for _, parts := range [][]string{{"a"}, {"a", "b"}, {"...", "a", "b"}, {"a", "a", "a", "a"}, {name12, "-", "_", "0"}} {
		path, _ := Join(parts)
		if got := Parts(path); !slices.Equal(got, parts) {
			t.Errorf("of %q: %q", parts, got)
		}
	}
}

// 4.4: Up and Last together are the path, and it is under the one.
func TestUpAndLast(t *testing.T) {
	for _, s := range texts() {
		if Check(s) != api.OK {
			continue
		}
		whole, e := Join(append(Parts(Up(s)), Last(s)))
		if whole != s || e != api.OK || !Under(s, Up(s)) || !Name(Last(s)) {
			t.Fatalf("of %q: %q and %q", s, Up(s), Last(s))
		}
		if up := Up(s); up != "" && Check(up) != api.OK {
			t.Fatalf("Up(%q) = %q is no directory", s, up)
		}
	}
}

// 4.4: Compare is an order: any two texts one way, of three the ends as the midst, none the same but itself.
func TestCompareIsAnOrder(t *testing.T) {
	list := slices.Concat(short()[:60], edges()[:70], drawn(5, 60))
	slices.Sort(list)
	list = slices.Compact(list)
	for _, a := range list {
		for _, b := range list {
			there, back := Compare(a, b), Compare(b, a)
			if there != -back || (there == 0) != (a == b) {
				t.Fatalf("%q and %q: %d and %d", a, b, there, back)
			}
			for _, c := range list {
				if there < 0 && Compare(b, c) < 0 && Compare(a, c) != -1 {
					t.Fatalf("%q, %q and %q do not stand in a row", a, b, c)
				}
			}
		}
	}
}

// 4.3, 4.4: in a row that rises, what is under a directory stands together, right behind it.
func TestUnderStandsTogether(t *testing.T) {
	list := texts()
	slices.SortFunc(list, Compare)
	list = slices.Compact(list)
	for at, dir := range list {
		if Check(dir) != api.OK {
			continue
		}
		end := at + 1
		for end < len(list) && strings.HasPrefix(list[end], dir+"/") {
			end++
		}
		for i, s := range list {
			if Under(s, dir) && (i <= at || i >= end) {
				t.Fatalf("%q stands away from %q", s, dir)
			}
		}
	}
}

// R3: of a list that is empty it is the same, whether it is nil or not.
func TestEmptyLists(t *testing.T) {
	for _, parts := range [][]string{nil, {}, make([]string, 0, 4)} {
		if path, e := Join(parts); path != "" || e != api.ErrPath {
			t.Errorf("Join(%#v) = %q, %v", parts, path, e)
		}
	}
	for _, s := range []string{"", "A", "a//b", longest + "a"} {
		if parts := Parts(s); len(parts) != 0 {
			t.Errorf("Parts(%q) = %q", s, parts)
		}
	}
}

// R4: what is handed in stays, behind its end too, and what is handed out is new each time.
func TestMemory(t *testing.T) {
	room := []string{"a", "b", "c", "d", "e"}
	Join(room[:2])
	Join(room)
	if !slices.Equal(room, []string{"a", "b", "c", "d", "e"}) {
		t.Errorf("what was handed in is now %q", room)
	}
	first, second := Parts("a/b"), Parts("a/b")
	first[0] = "x"
	_ = append(first, "y")
	if !slices.Equal(second, []string{"a", "b"}) || !slices.Equal(Parts("a/b"), []string{"a", "b"}) {
		t.Errorf("parts share memory: %q", second)
	}
}

// R1, R5: long texts and lists come to an end, and many at once get the same answers.
func TestAtOnceAndLong(t *testing.T) {
	long := strings.Repeat("a/", 1<<18)
	want := Compare(long, long+"b")
	if want != -1 || Compare(long, long) != 0 || Check(long) != api.ErrSize || Under(long, long) || Last(long) != "" {
		t.Error("of a long text")
	}
	var all sync.WaitGroup
	for range 8 {
		all.Go(func() {
			for _, s := range drawn(6, 500) {
				if Check(s) != checkWords(s) || !slices.Equal(Parts(s), partsWords(s)) {
					t.Errorf("of %q something else at once", s)
				}
			}
		})
	}
	all.Wait()
}

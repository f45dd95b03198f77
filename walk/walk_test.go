package walk

import (
	"math"
	"math/rand"
	"slices"
	"strings"
	"sync"
	"testing"

	"hearsay/api"
	"hearsay/tree"
)

// made is the tree of some entries, which may be.
func made(t *testing.T, l []api.Entry) *tree.Tree {
	t.Helper()
	x, err := tree.Of(l)
	if err != api.OK {
		t.Fatalf("%s are no tree: %v", tellEntries(l), err)
	}
	return x
}

// nothings are trees that have nothing, made in each way.
func nothings(t *testing.T) []*tree.Tree {
	t.Helper()
	gone, err := made(t, entries("a/b")).Set("a/b", nil)
	if err != api.OK {
		t.Fatal(err)
	}
	return []*tree.Tree{nil, {}, made(t, nil), made(t, []api.Entry{{Path: "a"}}), gone}
}

// hold holds all that is told of a tree, asked with some directories and texts, against the words; all are its entries, rising.
func hold(t *testing.T, x *tree.Tree, all []api.Entry, dirs, afters []string) {
	t.Helper()
	for _, dir := range dirs {
		holdDir(t, x, all, dir)
		for i, after := range afters {
			most := []int{math.MinInt, -1, 0, 1, 2, 3, len(all), len(all) + 1, math.MaxInt}[i%9]
			holdList(t, x, all, dir, after, most)
			holdList(t, x, all, dir, after, math.MaxInt)
		}
	}
	for _, after := range afters {
		holdNext(t, x, all, after)
	}
	if got, want := Depth(x), depthWords(all); got != want {
		t.Fatalf("the depth of %s is %d, not %d", tellEntries(all), got, want)
	}
	holdTree(t, x, all)
}

// holdTree holds that a tree has these entries, rising.
func holdTree(t *testing.T, x *tree.Tree, all []api.Entry) {
	t.Helper()
	if got := x.Entries(); !sameEntriesWords(got, all) {
		t.Fatalf("the tree of %s is now %s", tellEntries(all), tellEntries(got))
	}
}

// holdDir holds what is told of a directory, or of another text, against the words.
func holdDir(t *testing.T, x *tree.Tree, all []api.Entry, dir string) {
	t.Helper()
	if got, want := Under(x, dir), underWords(all, dir); !sameEntriesWords(got, want) {
		t.Fatalf("of %s below %s are %s, not %s", tellEntries(all), short(dir), tellEntries(got), tellEntries(want))
	}
	if got, want := Count(x, dir), countWords(all, dir); got != want {
		t.Fatalf("of %s at or below %s are %d, not %d", tellEntries(all), short(dir), got, want)
	}
	if got, want := Dirs(x, dir), dirsWords(all, dir); !slices.Equal(got, want) {
		t.Fatalf("of %s the directories below %s are %q, not %q", tellEntries(all), short(dir), got, want)
	}
}

// holdList holds a call of List against the words.
func holdList(t *testing.T, x *tree.Tree, all []api.Entry, dir, after string, most int) {
	t.Helper()
	if got, want := List(x, dir, after, most), listWords(all, dir, after, most); !sameEntriesWords(got, want) {
		t.Fatalf("of %s the first %d below %s behind %s are %s, not %s", tellEntries(all), most, short(dir), short(after), tellEntries(got), tellEntries(want))
	}
}

// holdNext holds a call of Next against the words.
func holdNext(t *testing.T, x *tree.Tree, all []api.Entry, after string) {
	t.Helper()
	got, is := Next(x, after)
	if want, has := nextWords(all, after); got != want || is != has {
		t.Fatalf("of %s behind %s is %q, %v, not %q, %v", tellEntries(all), short(after), got, is, want, has)
	}
}

// near are texts, and others that are near them: longer and shorter ones, with a slash more, and such as are no paths.
func near(texts []string) []string {
	var all []string
	for _, s := range texts {
		all = append(all, s, s+"/", "/"+s, s+"a", s+"-", s+"/a", s+"/-", s+"/zz", s+"//a", s[:max(0, len(s)-1)], s[min(1, len(s)):], strings.ToUpper(s), s+"\x00", s+"/\x00", s+"/.", s+"\xff")
	}
	slices.Sort(all)
	return slices.Compact(all)
}

// ways are paths, and the directories in which they are, each once.
func ways(of []string) []string {
	all := []string{""}
	for _, path := range of {
		names := strings.Split(path, "/")
		for count := range names {
			all = append(all, strings.Join(names[:count+1], "/"))
		}
	}
	slices.Sort(all)
	return slices.Compact(all)
}

// 16.1, 16.2: of a nil Tree, and of such as have nothing, there is nothing anywhere.
func TestNothing(t *testing.T) {
	texts := slices.Concat([]string{""}, goodPaths(), noPaths())
	for i, x := range nothings(t) {
		for _, s := range texts {
			if l := Under(x, s); len(l) != 0 {
				t.Errorf("%d: below %s are %s", i, short(s), tellEntries(l))
			}
			if count := Count(x, s); count != 0 {
				t.Errorf("%d: at %s or below are %d", i, short(s), count)
			}
			if path, is := Next(x, s); is || path != "" {
				t.Errorf("%d: behind %s is %q, %v", i, short(s), path, is)
			}
			if names := Dirs(x, s); len(names) != 0 {
				t.Errorf("%d: the directories below %s are %q", i, short(s), names)
			}
			for _, most := range []int{math.MinInt, -1, 0, 1, math.MaxInt} {
				if l := List(x, s, "", most); len(l) != 0 {
					t.Errorf("%d: the first %d below %s are %s", i, most, short(s), tellEntries(l))
				}
				if l := List(x, "", s, most); len(l) != 0 {
					t.Errorf("%d: the first %d behind %s are %s", i, most, short(s), tellEntries(l))
				}
			}
		}
		if depth := Depth(x); depth != 0 {
			t.Errorf("%d: the depth is %d", i, depth)
		}
		hold(t, x, nil, texts, texts)
	}
}

// 16.1, 16.2: the chapter's example.
func TestExample(t *testing.T) {
	x := made(t, entries("a/c/d", "a/b", "a"))
	if got := pathsOf(Under(x, "a")); !slices.Equal(got, []string{"a/b", "a/c/d"}) {
		t.Errorf(`below "a" are %q`, got)
	}
	if got := Dirs(x, "a"); !slices.Equal(got, []string{"c"}) {
		t.Errorf(`the directories below "a" are %q`, got)
	}
	if got := Depth(x); got != 3 {
		t.Errorf("the depth is %d", got)
	}
}

// told is a tree of all kinds: directories with a leaf of their own ("a", "a/b", "e") and without ("c", "c/d"), and names that others begin with.
func told() []string {
	return []string{"a", "a/b", "a/b/c", "a/b/d/e", "a/c", "a-b", "ab/x", "c/d/e/f", "c/d/e/g", "e", "e/f", "g"}
}

// toldDir is what is below a directory, or another text.
type toldDir struct {
	dir   string
	under []string
	count int
	dirs  []string
}

// toldDirs are, of the told tree, directories and other texts with what is below them.
func toldDirs() []toldDir {
	return []toldDir{
		{"", told(), 12, []string{"a", "ab", "c", "e"}},
		// It has a leaf of its own, which is at it, and not below it.
		{"a", []string{"a/b", "a/b/c", "a/b/d/e", "a/c"}, 5, []string{"b"}},
		{"a/b", []string{"a/b/c", "a/b/d/e"}, 3, []string{"d"}},
		{"e", []string{"e/f"}, 2, nil},
		// It has none.
		{"c", []string{"c/d/e/f", "c/d/e/g"}, 2, []string{"d"}},
		{"c/d", []string{"c/d/e/f", "c/d/e/g"}, 2, []string{"e"}},
		{"c/d/e", []string{"c/d/e/f", "c/d/e/g"}, 2, nil},
		{"a/b/d", []string{"a/b/d/e"}, 1, nil},
		{"ab", []string{"ab/x"}, 1, nil},
		// It has a leaf alone.
		{"a-b", nil, 1, nil},
		{"g", nil, 1, nil},
		{"a/b/c", nil, 1, nil},
		{"a/b/d/e", nil, 1, nil},
		{"c/d/e/f", nil, 1, nil},
		// There is nothing, though names begin so.
		{"a-", nil, 0, nil},
		{"b", nil, 0, nil},
		{"c/d/", nil, 0, nil},
		{"c/", nil, 0, nil},
		{"/c", nil, 0, nil},
		{"a/b/d/e/f", nil, 0, nil},
		{"zz", nil, 0, nil},
		{"d", nil, 0, nil},
		{"/", nil, 0, nil},
		{"a/", nil, 0, nil},
		{"/a", nil, 0, nil},
		{"//", nil, 0, nil},
		{"a//", nil, 0, nil},
		{".", nil, 0, nil},
		{"a/b/..", nil, 0, nil},
		{"A", nil, 0, nil},
		{strings.Repeat("a", mostPath+1), nil, 0, nil},
		{strings.Repeat("a/", mostPath), nil, 0, nil},
	}
}

// 16.1, 16.2: what is below directories and other texts, written down: rising, with all leaves as the tree has them.
func TestDirsTold(t *testing.T) {
	all := entries(told()...)
	x := made(t, all)
	for _, c := range toldDirs() {
		got := Under(x, c.dir)
		if !slices.Equal(pathsOf(got), c.under) || !slices.Equal(pathsOf(underWords(all, c.dir)), c.under) {
			t.Errorf("below %s are %q", short(c.dir), pathsOf(got))
		}
		for _, e := range got {
			if !sameLeafWords(e.Versions, x.Get(e.Path)) || len(e.Versions) == 0 {
				t.Errorf("at %s is %s", e.Path, tellLeaf(e.Versions))
			}
		}
		if got := Count(x, c.dir); got != c.count || countWords(all, c.dir) != c.count {
			t.Errorf("at %s or below are %d", short(c.dir), got)
		}
		if got := Dirs(x, c.dir); !slices.Equal(got, c.dirs) || !slices.Equal(dirsWords(all, c.dir), c.dirs) {
			t.Errorf("the directories below %s are %q", short(c.dir), got)
		}
	}
	hold(t, x, all, near(ways(told())), near(ways(told())))
}

// 16.1: where the tree has "ab" and "a-b" alone, there is nothing at "a" and below it.
func TestNamesThatBeginSo(t *testing.T) {
	for _, of := range [][]string{{"a-b", "ab"}, {"a-b/c", "ab/c"}, {"a-b/c/d", "ab/c/d", "ab/c-"}} {
		x := made(t, entries(of...))
		if l := Under(x, "a"); len(l) != 0 || Count(x, "a") != 0 || len(Dirs(x, "a")) != 0 || len(List(x, "a", "", 9)) != 0 {
			t.Errorf(`of %q below "a" are %s, %d, %q`, of, tellEntries(l), Count(x, "a"), Dirs(x, "a"))
		}
		if got := pathsOf(Under(x, "")); !slices.Equal(got, of) || Count(x, "") != len(of) {
			t.Errorf("of %q below the root are %q", of, got)
		}
		hold(t, x, entries(of...), near([]string{"a", "ab", "a-b", "ab/c"}), near(of))
	}
}

// 16.1: entries rise by 4's Compare, in whatever order they were set: "a", then "a/b", then "a-b".
func TestRising(t *testing.T) {
	l := entries("a-b", "a/b", "a")
	if got := Under(made(t, l), ""); !sameEntriesWords(got, []api.Entry{l[2], l[1], l[0]}) {
		t.Errorf("they are %s", tellEntries(got))
	}
	draw := rand.New(rand.NewSource(16))
	all := entries(goodPaths()...)
	for range 20 {
		mixed := slices.Clone(all)
		draw.Shuffle(len(mixed), func(i, j int) { mixed[i], mixed[j] = mixed[j], mixed[i] })
		if got := Under(made(t, mixed), ""); !sameEntriesWords(got, all) {
			t.Fatalf("they are %s", tellEntries(got))
		}
	}
}

// toldList is a call of List, and what comes.
type toldList struct {
	dir, after string
	most       int
	want       []string
}

// toldLists are, of the told tree, calls of List.
func toldLists() []toldList {
	return []toldList{
		{"", "", math.MinInt, nil}, {"", "", -1, nil}, {"", "", 0, nil}, {"", "", 1, []string{"a"}}, {"", "", 2, []string{"a", "a/b"}},
		{"", "", 11, told()[:11]}, {"", "", 12, told()}, {"", "", 13, told()}, {"", "", math.MaxInt, told()},
		{"a", "", math.MinInt, nil}, {"a", "", 0, nil}, {"a", "", 1, []string{"a/b"}}, {"a", "", 3, []string{"a/b", "a/b/c", "a/b/d/e"}}, {"a", "", 4, []string{"a/b", "a/b/c", "a/b/d/e", "a/c"}}, {"a", "", 5, []string{"a/b", "a/b/c", "a/b/d/e", "a/c"}},
		// Behind a path of the tree: that one does not come itself.
		{"", "a/c", 1, []string{"a-b"}}, {"", "e", 9, []string{"e/f", "g"}}, {"a", "a/b", 2, []string{"a/b/c", "a/b/d/e"}}, {"a", "a", 1, []string{"a/b"}}, {"", "g", 9, nil}, {"a", "a/c", 9, nil},
		// Behind a text between two.
		{"", "a/b/d", 1, []string{"a/b/d/e"}}, {"", "a/d", 2, []string{"a-b", "ab/x"}}, {"", "c/d/e/ff", 2, []string{"c/d/e/g", "e"}}, {"a", "a/b/cc", 9, []string{"a/b/d/e", "a/c"}}, {"", "d", 1, []string{"e"}},
		// Behind all.
		{"", "g/a", 9, nil}, {"", "zz", 9, nil}, {"a", "a/zz", 9, nil}, {"", "\xff", 9, nil},
		// Behind what is below another directory, ahead or behind.
		{"c", "a/b", 1, []string{"c/d/e/f"}}, {"c", "ab/x", 9, []string{"c/d/e/f", "c/d/e/g"}}, {"a", "c/d/e/f", 9, nil}, {"a", "a-b", 9, nil}, {"e", "c/d", 9, []string{"e/f"}},
		// Behind what is no path.
		{"", "/", 1, []string{"a"}}, {"", "a/", 1, []string{"a/b"}}, {"", "a//", 1, []string{"a/b"}}, {"", "A", 1, []string{"a"}}, {"", "\x00", 1, []string{"a"}}, {"", "a\x00", 1, []string{"a-b"}}, {"", "{", 9, nil}, {"", "a/b/d/e/f/g", 1, []string{"a/c"}}, {"", strings.Repeat("a", mostPath+1), 1, []string{"ab/x"}}, {"a", "a/b/", 1, []string{"a/b/c"}}, {"a", "/", 1, []string{"a/b"}},
		// Below what is no directory, or has nothing.
		{"/", "", 9, nil}, {"a/", "", 9, nil}, {"//", "", 9, nil}, {"g", "", 9, nil}, {"a-b", "", 9, nil}, {"b", "", 9, nil}, {strings.Repeat("a", mostPath+1), "", 9, nil},
	}
}

// 16.1: List, written down: the first most of those behind a text.
func TestListTold(t *testing.T) {
	all := entries(told()...)
	x := made(t, all)
	for _, c := range toldLists() {
		got := List(x, c.dir, c.after, c.most)
		if !slices.Equal(pathsOf(got), c.want) {
			t.Errorf("the first %d below %s behind %s are %q", c.most, short(c.dir), short(c.after), pathsOf(got))
		}
		holdList(t, x, all, c.dir, c.after, c.most)
	}
}

// 16.1: List with each most, from below 0 to more than there are, behind each path and between.
func TestListMost(t *testing.T) {
	all := entries(goodPaths()...)
	x := made(t, all)
	for _, dir := range []string{"", "a", "a/b", "b", "b/a/a", "nnnnnnnnnnnn", "zz", "/"} {
		for _, after := range near([]string{"", "a/b", "a/b/c/d", "aa", "b/a/a/b", "zz"}) {
			for most := -2; most <= len(all)+2; most++ {
				holdList(t, x, all, dir, after, most)
			}
		}
	}
	holdTree(t, x, all)
}

// toldNext is a text, and the path behind it; has: whether there is one.
type toldNext struct {
	after, want string
	has         bool
}

// 16.2: Next, written down: from the empty text on, from each path of the tree to the next one, from texts between and from such as are no paths.
func TestNextTold(t *testing.T) {
	all := entries(told()...)
	x := made(t, all)
	after := ""
	for _, want := range told() {
		if got, is := Next(x, after); got != want || !is {
			t.Errorf("behind %q is %q, %v", after, got, is)
		}
		after = want
	}
	for _, c := range []toldNext{
		{"g", "", false}, {"g/a", "", false}, {"g-", "", false}, {"zz", "", false}, {longest("z"), "", false}, {"{", "", false}, {"\xff", "", false}, {"g/", "", false}, {"g\x00", "", false}, {strings.Repeat("g", api.MaxText+1), "", false},
		{"0", "a", true}, {"a/a", "a/b", true}, {"a/b/cc", "a/b/d/e", true}, {"a/b/d", "a/b/d/e", true}, {"a/b/z", "a/c", true}, {"a/c/z", "a-b", true}, {"a-", "a-b", true}, {"a-c", "ab/x", true}, {"ab", "ab/x", true}, {"b", "c/d/e/f", true}, {"c/d/e", "c/d/e/f", true}, {"f", "g", true},
		{"/", "a", true}, {"//", "a", true}, {"A", "a", true}, {"\x00", "a", true}, {"a/", "a/b", true}, {"a//", "a/b", true}, {"a/b/", "a/b/c", true}, {"a\x00", "a-b", true}, {"a/b/d/e/f/g", "a/c", true}, {"a ", "a-b", true}, {"e/", "e/f", true}, {strings.Repeat("/", mostPath+1), "a", true}, {strings.Repeat("a", mostPath+1), "ab/x", true},
	} {
		if got, is := Next(x, c.after); got != c.want || is != c.has {
			t.Errorf("behind %s is %q, %v", short(c.after), got, is)
		}
		holdNext(t, x, all, c.after)
	}
}

// 16.2: Dirs has each name once, rising byte by byte, if there is something below it, whether it has a leaf or not.
func TestDirsOnce(t *testing.T) {
	of := []string{"a", "a/b", "a/c", "a/d/e", "b", "c/x/y", "c/x/z", "c/z", "c-/a", "c.", "c./a", "c0/a/b/c", "d/a"}
	x := made(t, entries(of...))
	for dir, want := range map[string][]string{"": {"a", "c", "c-", "c.", "c0", "d"}, "a": {"d"}, "a/d": nil, "b": nil, "c": {"x"}, "c/x": nil, "c/z": nil, "c-": nil, "c0": {"a"}, "c0/a": {"b"}, "c0/a/b": nil, "c0/a/b/c": nil, "d": nil, "c0/": nil, "/": nil} {
		if got := Dirs(x, dir); !slices.Equal(got, want) {
			t.Errorf("the directories below %q are %q", dir, got)
		}
	}
	hold(t, x, risingWords(entries(of...)), near(ways(of)), nil)
}

// 16.2: Depth of trees of one name, of four, and of mixed ones.
func TestDepth(t *testing.T) {
	for _, c := range []struct {
		of   []string
		want int
	}{
		{[]string{"a"}, 1}, {[]string{"a", "b", "a-b.c"}, 1}, {[]string{"a/b"}, 2}, {[]string{"a/b/c"}, 3}, {[]string{"a/b/c/d"}, 4}, {[]string{longest("z")}, 4}, {[]string{"z", "a/b/c/d"}, 4}, {[]string{"a", "z/b/c/d"}, 4}, {[]string{"a", "b/c", "d"}, 2}, {[]string{"a", "a/b", "a/b/c", "b"}, 3}, {[]string{strings.Repeat("n", mostName), "m/n"}, 2},
	} {
		if got := Depth(made(t, entries(c.of...))); got != c.want || depthWords(entries(c.of...)) != c.want {
			t.Errorf("the depth of %q is %d", c.of, got)
		}
	}
	for _, c := range []struct {
		dir  func(int) string
		want int
	}{{flat, 1}, {shared, 3}, {deep, 4}} {
		if got := Depth(made(t, entries(manyPaths(mostPaths, c.dir)...))); got != c.want {
			t.Errorf("the depth of many is %d, not %d", got, c.want)
		}
	}
}

// 16.1, 16.2: each path by itself: it is below all directories in which it is, and nowhere else.
func TestOnePath(t *testing.T) {
	texts := slices.Concat(near(ways([]string{"a/b/c/d", "b-", "ab/a"})), goodPaths(), noPaths())
	for i, path := range goodPaths() {
		all := []api.Entry{{Path: path, Versions: leafOf(i)}}
		hold(t, made(t, all), all, slices.Concat(texts, near(ways([]string{path}))), slices.Concat(goodPaths(), noPaths(), near([]string{path})))
	}
}

// 16.1, 16.2: all texts of up to four bytes of six kinds, of directories and behind, with a tree of many of them; List with all of up to two bytes as directories.
func TestShortTexts(t *testing.T) {
	texts := textsOf(4, "ab-/.\x00")
	var of []string
	for i, s := range texts {
		if pathWords(s) && i%7 == 0 {
			of = append(of, s)
		}
	}
	if len(of) < 50 || len(of) > mostPaths {
		t.Fatalf("%d paths", len(of))
	}
	all := risingWords(entries(of...))
	for i := range all {
		all[i].Versions = versions(live(0, 1+i, "")) // small ones, as there are many calls
	}
	x := made(t, all)
	hold(t, x, all, texts, nil)
	hold(t, x, all, []string{""}, texts)
	hold(t, x, all, textsOf(2, "ab-/"), textsOf(3, "ab-/\x00"))
}

// 16.1, 16.2: trees that have as many paths as may be, of three shapes.
func TestFull(t *testing.T) {
	for _, dir := range []func(int) string{flat, shared, deep} {
		of := manyPaths(mostPaths, dir)
		all := risingWords(entries(of...))
		x := made(t, all)
		hold(t, x, all, ways(of[:8]), near(of[:4]))
		if len(Under(x, "")) != mostPaths || Count(x, "") != mostPaths || len(List(x, "", "", mostPaths)) != mostPaths || len(List(x, "", "", mostPaths-1)) != mostPaths-1 {
			t.Errorf("not all are below the root")
		}
	}
}

// 16.3: who lists again and again, with each most from 1 on, behind the last path that came, comes to all that Under tells, each once.
func TestListAgain(t *testing.T) {
	draw := rand.New(rand.NewSource(163))
	trees := [][]string{nil, {"a"}, {"a", "a/b", "a-b"}, told(), goodPaths(), manyPaths(mostPaths, shared)}
	for range 30 {
		var of []string
		for range 1 + draw.Intn(40) {
			of = append(of, drawnPath(draw))
		}
		slices.Sort(of)
		trees = append(trees, slices.Compact(of))
	}
	for _, of := range trees {
		x := made(t, entries(of...))
		for _, dir := range append(ways(of[:min(len(of), 12)]), "zzz", "/", "a/") {
			want := Under(x, dir)
			for most := 1; most <= min(len(want)+2, 20); most++ {
				holdAgain(t, x, dir, most, want)
			}
			holdAgain(t, x, dir, math.MaxInt, want)
		}
		if got := nextAgain(x); !slices.Equal(got, pathsOf(Under(x, ""))) {
			t.Fatalf("of %q one behind the other are %q", of, got)
		}
	}
}

// holdAgain holds that calls of List, each behind the last path that came, come to what is wanted.
func holdAgain(t *testing.T, x *tree.Tree, dir string, most int, want []api.Entry) {
	t.Helper()
	var all []api.Entry
	for after := ""; ; after = all[len(all)-1].Path {
		l := List(x, dir, after, most)
		if rest := len(want) - len(all); len(l) != min(most, rest) {
			t.Fatalf("of %d that are left below %q come %d of at most %d", rest, dir, len(l), most)
		}
		if len(l) == 0 {
			break
		}
		all = append(all, l...)
	}
	if !sameEntriesWords(all, want) {
		t.Fatalf("listed by %d below %q are %s, not %s", most, dir, tellEntries(all), tellEntries(want))
	}
}

// nextAgain are all paths to which Next comes from the empty text on.
func nextAgain(x *tree.Tree) []string {
	var all []string
	for path, is := Next(x, ""); is; path, is = Next(x, path) {
		all = append(all, path)
	}
	return all
}

// 16.1 to 16.3: drawn trees, asked with directories and texts that are drawn.
func TestDrawn(t *testing.T) {
	draw := rand.New(rand.NewSource(161))
	for range 30 {
		var of []string
		for range draw.Intn(60) {
			of = append(of, drawnPath(draw))
		}
		slices.Sort(of)
		of = slices.Compact(of)
		draw.Shuffle(len(of), func(i, j int) { of[i], of[j] = of[j], of[i] })
		l := entries(of...)
		x := made(t, l)
		all := risingWords(l)
		var texts []string
		for range 8 {
			texts = append(texts, drawnPath(draw))
		}
		texts = append(texts, ways(of[:min(len(of), 4)])...)
		texts = append(texts, noPaths()[draw.Intn(len(noPaths()))])
		hold(t, x, all, texts, near(texts)[:60])
	}
}

// scribble writes over all that entries have, up to their lists' capacity.
func scribble(l []api.Entry) {
	l = l[:cap(l)]
	for i := range l {
		leaf := l[i].Versions[:cap(l[i].Versions)]
		for j := range leaf {
			past := leaf[j].Past[:cap(leaf[j].Past)]
			for k := range past {
				past[k] = dot(1, 1000)
			}
			leaf[j] = live(3, 3000, "over")
		}
		l[i] = api.Entry{Path: "over"}
	}
}

// R4: what is handed out is new memory: written over, it changes no tree, and nothing else that was handed out.
func TestHandedOut(t *testing.T) {
	all := entries(goodPaths()...)
	x := made(t, all)
	root := x.Root()
	lists := func() [][]api.Entry {
		return [][]api.Entry{Under(x, ""), Under(x, "a"), Under(x, "zz"), List(x, "", "", math.MaxInt), List(x, "", "a/b", 3), List(x, "a", "", 2), List(x, "a", "", 0)}
	}
	want := lists()
	for i := range want {
		want[i] = copyOf(want[i])
	}
	first, second := lists(), lists()
	for _, l := range first {
		scribble(l)
	}
	for i, l := range second {
		if !sameEntriesWords(l, want[i]) {
			t.Errorf("%s became %s, when another one was written over", tellEntries(want[i]), tellEntries(l))
		}
	}
	names := Dirs(x, "")
	for i := range names[:cap(names)] {
		names[:cap(names)][i] = "over"
	}
	if got := Dirs(x, ""); !slices.Equal(got, dirsWords(all, "")) {
		t.Errorf("the directories are %q", got)
	}
	hold(t, x, all, ways(goodPaths()), goodPaths())
	if x.Root() != root {
		t.Errorf("the tree is another one")
	}
}

// R4: no two lists of one answer share memory, also where the tree was made of leaves that did.
func TestListsApart(t *testing.T) {
	past := list(0, 1, 9, 1)
	leaf := []api.Version{{Dot: dot(1, 1), Past: past}, {Dot: dot(2, 2), Past: past}}
	x := made(t, []api.Entry{{Path: "a", Versions: leaf}, {Path: "b", Versions: leaf}})
	for _, l := range [][]api.Entry{Under(x, ""), List(x, "", "", 2)} {
		v := l[0].Versions
		scribble([]api.Entry{{Versions: v[:1:1]}})
		if !sameLeafWords(v[1:], leaf[1:]) || !sameLeafWords(l[1].Versions, leaf) {
			t.Errorf("with the first Past written over it is %s", tellEntries(l))
		}
		scribble(l[:1:1])
		if !sameLeafWords(l[1].Versions, leaf) {
			t.Errorf("with the first leaf written over the other one is %s", tellLeaf(l[1].Versions))
		}
	}
}

// R1: calls with very long texts come to an end soon.
func TestLong(t *testing.T) {
	all := entries(manyPaths(mostPaths, deep)...)
	x := made(t, all)
	all = risingWords(all)
	for _, s := range []string{strings.Repeat("a", 1<<22), strings.Repeat("/", 1<<22), strings.Repeat("a/", 1<<21), "a0/b0/c0/p0" + strings.Repeat("\x00", 1<<22), "a0/b0/c0/" + strings.Repeat("/", 1<<22)} {
		if l := Under(x, s); len(l) != 0 || Count(x, s) != 0 || len(Dirs(x, s)) != 0 || len(List(x, s, s, math.MaxInt)) != 0 {
			t.Errorf("there is something below %s", short(s))
		}
		begins := s[:mostPath+1] // which is enough to tell what stands behind, as no path is as long
		if got, want := List(x, "", s, math.MaxInt), listWords(all, "", begins, math.MaxInt); !sameEntriesWords(got, want) {
			t.Errorf("behind %s are %s, not %s", short(s), tellEntries(got), tellEntries(want))
		}
		want, has := nextWords(all, begins)
		if path, is := Next(x, s); path != want || is != has {
			t.Errorf("behind %s is %q, %v", short(s), path, is)
		}
	}
}

// R1, R4, R5: a tree that many ask at once tells all the same.
func TestManyAtOnce(t *testing.T) {
	all := entries(told()...)
	x := made(t, all)
	var each sync.WaitGroup
	for range 8 {
		each.Go(func() {
			for _, c := range toldDirs() {
				l, names := Under(x, c.dir), Dirs(x, c.dir)
				if !slices.Equal(pathsOf(l), c.under) || !slices.Equal(names, c.dirs) || Count(x, c.dir) != c.count || Depth(x) != 4 {
					t.Errorf("asked at once, below %s are %s, %q", short(c.dir), tellEntries(l), names)
				}
				scribble(l)
				clear(names)
			}
			for _, c := range toldLists() {
				if l := List(x, c.dir, c.after, c.most); !slices.Equal(pathsOf(l), c.want) {
					t.Errorf("asked at once, below %s behind %s are %s", short(c.dir), short(c.after), tellEntries(l))
				}
			}
			if got := nextAgain(x); !slices.Equal(got, told()) {
				t.Errorf("asked at once, one behind the other are %q", got)
			}
		})
	}
	each.Wait()
	holdTree(t, x, all)
}

// The walk itself: it tells entries from the first one on, each time that it is gone through, asks each what it is told to ask, and goes no further than it is wanted.
func TestThose(t *testing.T) {
	x := made(t, entries(told()...))
	p := place{dir: "a", after: "a/b"}
	for _, c := range []struct {
		asked func(place, api.Entry) bool
		want  []string
	}{
		{place.below, []string{"a/b", "a/b/c", "a/b/d/e", "a/c"}}, {place.within, []string{"a", "a/b", "a/b/c", "a/b/d/e", "a/c"}},
		{place.belowBehind, []string{"a/b/c", "a/b/d/e", "a/c"}}, {place.behind, told()[2:]},
	} {
		each := those(x, p, c.asked)
		for range 2 {
			if got := pathsOf(slices.Collect(each)); !slices.Equal(got, c.want) {
				t.Errorf("%q come, not %q", got, c.want)
			}
		}
		for e := range each {
			if e.Path != c.want[0] {
				t.Errorf("the first one is %q", e.Path)
			}
			break
		}
	}
	count := 0
	for range those(x, p, func(place, api.Entry) bool { count++; return true }) {
		break
	}
	if count != 1 {
		t.Errorf("%d were asked for one", count)
	}
}

// 16.1: how many there are is told the same in all ways: Count is what is below and what is at it; the directories' counts come together to the root's.
func TestCounts(t *testing.T) {
	for _, of := range [][]string{told(), goodPaths(), manyPaths(mostPaths, shared)} {
		x := made(t, entries(of...))
		for _, dir := range ways(of) {
			want := len(Under(x, dir)) + min(1, len(x.Get(dir)))
			if got := Count(x, dir); got != want {
				t.Errorf("at %q or below are %d, not %d", dir, got, want)
			}
			below := 0
			n, _ := x.Node(dir)
			for _, kid := range n.Kids {
				below += Count(x, strings.TrimPrefix(dir+"/"+kid.Name, "/"))
			}
			if below != len(Under(x, dir)) {
				t.Errorf("below %q are %d, by its names %d", dir, len(Under(x, dir)), below)
			}
		}
	}
}

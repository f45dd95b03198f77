package view

import (
	"math/rand"
	"slices"
	"strconv"
	"strings"
	"sync"
	"testing"

	"hearsay/api"
	"hearsay/sibling"
	"hearsay/tree"
)

// made is the tree of some entries, which may be.
func made(t *testing.T, l []api.Entry) *tree.Tree {
	t.Helper()
	x, err := tree.Of(l)
	if err != api.OK {
		t.Fatalf("%s are no tree: %v", tellEntries(l), err)
	}
	return x
}

// nothings are trees that have nothing, made in each way.
func nothings(t *testing.T) []*tree.Tree {
	t.Helper()
	gone, err := made(t, entries("a/b")).Set("a/b", nil)
	if err != api.OK {
		t.Fatal(err)
	}
	return []*tree.Tree{nil, {}, made(t, nil), made(t, []api.Entry{{Path: "a"}}), gone}
}

// hold holds all that users see of a tree, asked with some texts as paths and as directories, against the words; all are its entries, rising.
func hold(t *testing.T, x *tree.Tree, all []api.Entry, texts []string) {
	t.Helper()
	for _, s := range texts {
		holdPath(t, x, all, s)
		holdDir(t, x, all, s)
	}
	if got, want := Files(x), filesWords(all); !slices.Equal(got, want) {
		t.Fatalf("the files of %s are %q, not %q", tellEntries(all), got, want)
	}
	if got, want := Conflicts(x), conflictsWords(all); !slices.Equal(got, want) {
		t.Fatalf("the conflicts of %s are %q, not %q", tellEntries(all), got, want)
	}
	if got := x.Entries(); !sameEntriesWords(got, all) {
		t.Fatalf("the tree of %s is now %s", tellEntries(all), tellEntries(got))
	}
}

// holdPath holds what is read of a path, or of another text, against the words.
func holdPath(t *testing.T, x *tree.Tree, all []api.Entry, path string) {
	t.Helper()
	got, err := Read(x, path)
	if want, why := readWords(all, path); got != want || err != why {
		t.Fatalf("of %s at %s is %q, %v, not %q, %v", tellEntries(all), short(path), got, err, want, why)
	}
	if got, want := All(x, path), allWords(all, path); !slices.Equal(got, want) {
		t.Fatalf("of %s at %s are %q, not %q", tellEntries(all), short(path), got, want)
	}
}

// holdDir holds the names in a directory, or in another text, against the words.
func holdDir(t *testing.T, x *tree.Tree, all []api.Entry, dir string) {
	t.Helper()
	if got, want := Names(x, dir), namesWords(all, dir); !slices.Equal(got, want) {
		t.Fatalf("of %s the names in %s are %v, not %v", tellEntries(all), short(dir), got, want)
	}
}

// near are texts, and others that are near them: longer and shorter ones, with a slash more, and such as are no paths.
func near(texts []string) []string {
	var all []string
	for _, s := range texts {
		all = append(all, s, s+"/", "/"+s, s+"a", s+"-", s+"/a", s+"/-", s+"/zz", s+"//a", s[:max(0, len(s)-1)], s[min(1, len(s)):], strings.ToUpper(s), s+"\x00", s+"/\x00", s+"/.", s+"\xff")
	}
	slices.Sort(all)
	return slices.Compact(all)
}

// ways are paths, and the directories in which they are, each once.
func ways(of []string) []string {
	all := []string{""}
	for _, path := range of {
		names := strings.Split(path, "/")
		for count := range names {
			all = append(all, strings.Join(names[:count+1], "/"))
		}
	}
	slices.Sort(all)
	return slices.Compact(all)
}

// entry is a path with its versions.
func entry(path string, l ...api.Version) api.Entry {
	return api.Entry{Path: path, Versions: l}
}

// 17.1 to 17.3: of a nil Tree, and of such as have nothing, nothing is seen.
func TestNothing(t *testing.T) {
	texts := slices.Concat([]string{""}, goodPaths(), noPaths())
	for i, x := range nothings(t) {
		for _, s := range texts {
			want := api.ErrNone
			if why := checkWords(s); why != api.OK {
				want = why
			}
			if data, err := Read(x, s); data != "" || err != want {
				t.Errorf("%d: at %s is %q, %v", i, short(s), data, err)
			}
			if l := All(x, s); len(l) != 0 {
				t.Errorf("%d: at %s are %q", i, short(s), l)
			}
			if l := Names(x, s); len(l) != 0 {
				t.Errorf("%d: in %s are %v", i, short(s), l)
			}
		}
		if l := Files(x); len(l) != 0 {
			t.Errorf("%d: the files are %q", i, l)
		}
		if l := Conflicts(x); len(l) != 0 {
			t.Errorf("%d: the conflicts are %q", i, l)
		}
		hold(t, x, nil, texts)
	}
}

// 17.1 to 17.3: the chapter's example.
func TestExample(t *testing.T) {
	x := made(t, []api.Entry{entry("a/b", dead(0, 2, 0, 1)), entry("a/c", live(0, 3, "x"), live(1, 3, "y"))})
	if got := Names(x, ""); !slices.Equal(got, []Name{{"a", false, true}}) {
		t.Errorf("the names of the root are %v", got)
	}
	if got := Names(x, "a"); !slices.Equal(got, []Name{{"c", true, false}}) {
		t.Errorf(`the names of "a" are %v`, got)
	}
	if got := Conflicts(x); !slices.Equal(got, []string{"a/c"}) {
		t.Errorf("the conflicts are %q", got)
	}
	if got := Files(x); !slices.Equal(got, []File{{"a/c", "y"}}) {
		t.Errorf("the files are %q", got)
	}
	if data, err := Read(x, "a/c"); data != "y" || err != api.OK {
		t.Errorf(`at "a/c" is %q, %v`, data, err)
	}
	if got := All(x, "a/c"); !slices.Equal(got, []string{"y", "x"}) {
		t.Errorf(`at "a/c" are %q`, got)
	}
	if data, err := Read(x, "a/b"); data != "" || err != api.ErrNone {
		t.Errorf(`at "a/b" is %q, %v`, data, err)
	}
}

// told is a tree of leaves of all kinds.
func told() []api.Entry {
	return []api.Entry{
		entry("a", live(3, 7, "alone", 0, 5)),
		entry("a/b", live(0, 2, "one"), live(1, 2, "two"), dead(2, 9)),
		entry("a/b/c", dead(0, 1)),
		entry("a/d", live(0, 1, "")),
		entry("a/e", live(0, 9, "left"), live(1, 8, "behind"), live(2, 9, "right")),
		entry("a-b/c/d/e", live(5, 1, "deep")),
		entry("ab", dead(0, 4), dead(1, 5)),
		entry("ab/x", dead(0, 6), live(1, 1, "lives"), dead(63, top)),
		entry("d", live(0, 5, "same"), live(1, 6, "other"), live(2, 5, "same")),
		entry("d/e", live(0, 3, ""), live(1, 3, "")),
		entry("f/g", dead(4, 4)),
		entry("h", live(62, top-1, "less"), live(63, top, strings.Repeat("m", mostData))),
	}
}

// toldPath is what is read of a path, or of another text.
type toldPath struct {
	path string
	err  api.Errno
	all  []string // of which the first one is read
}

// toldPaths are, of the told tree, paths and other texts with what is read there.
func toldPaths() []toldPath {
	return []toldPath{
		{"a", api.OK, []string{"alone"}},
		// The greater Count, then the greater Peer; what is Dead is not told, though its Count be the greatest.
		{"a/b", api.OK, []string{"two", "one"}},
		{"a/e", api.OK, []string{"right", "left", "behind"}},
		{"ab/x", api.OK, []string{"lives"}},
		{"a-b/c/d/e", api.OK, []string{"deep"}},
		{"h", api.OK, []string{strings.Repeat("m", mostData), "less"}},
		// Of empty data, and of the same data twice.
		{"a/d", api.OK, []string{""}},
		{"d", api.OK, []string{"other", "same", "same"}},
		{"d/e", api.OK, []string{"", ""}},
		// All versions are Dead.
		{"a/b/c", api.ErrNone, nil}, {"ab", api.ErrNone, nil}, {"f/g", api.ErrNone, nil},
		// Directories that have no version of their own.
		{"a-b", api.ErrNone, nil}, {"a-b/c", api.ErrNone, nil}, {"a-b/c/d", api.ErrNone, nil}, {"f", api.ErrNone, nil},
		// Paths that the tree hasn't.
		{"b", api.ErrNone, nil}, {"a/c", api.ErrNone, nil}, {"a/b/d", api.ErrNone, nil}, {"-", api.ErrNone, nil}, {"zz", api.ErrNone, nil}, {"a-", api.ErrNone, nil}, {longest("z"), api.ErrNone, nil}, {strings.Repeat("a", mostName), api.ErrNone, nil},
		// No paths.
		{"", api.ErrPath, nil}, {"/", api.ErrPath, nil}, {"a/", api.ErrPath, nil}, {"/a", api.ErrPath, nil}, {"a//b", api.ErrPath, nil}, {"a/..", api.ErrPath, nil}, {"a/./b", api.ErrPath, nil}, {"A", api.ErrPath, nil}, {"a\x00", api.ErrPath, nil}, {"a/b/c/d/e", api.ErrPath, nil}, {strings.Repeat("a", mostName+1), api.ErrPath, nil}, {strings.Repeat("a", mostPath), api.ErrPath, nil}, {strings.Repeat("/", mostPath), api.ErrPath, nil},
		{strings.Repeat("a", mostPath+1), api.ErrSize, nil}, {strings.Repeat("/", mostPath+1), api.ErrSize, nil}, {longest("z") + "z", api.ErrSize, nil}, {longest("z") + "/", api.ErrSize, nil},
	}
}

// 17.1: Read and All, written down.
func TestPathsTold(t *testing.T) {
	all := told()
	x := made(t, all)
	for _, c := range toldPaths() {
		want := ""
		if len(c.all) > 0 {
			want = c.all[0]
		}
		if data, err := Read(x, c.path); data != want || err != c.err {
			t.Errorf("at %s is %q, %v", short(c.path), data, err)
		}
		if got := All(x, c.path); !slices.Equal(got, c.all) {
			t.Errorf("at %s are %q", short(c.path), got)
		}
		holdPath(t, x, all, c.path)
	}
}

// 17.1, 17.2: all texts of up to four bytes of six kinds, as paths and as directories: Check's error of those that are no paths, and of no others.
func TestShortTexts(t *testing.T) {
	texts := textsOf(4, "ab-/.\x00")
	var all []api.Entry
	for i, s := range texts {
		if pathWords(s) && i%7 == 0 {
			all = append(all, entry(s, leafOf(len(all)%7)...))
		}
	}
	if len(all) < 50 || len(all) > mostPaths {
		t.Fatalf("%d paths", len(all))
	}
	all = risingWords(all)
	hold(t, made(t, all), all, slices.Concat(texts, noPaths()))
}

// 17.1: of all leaves of four peers, each with no version, or one of three Counts, live or Dead, the live ones come, each ahead of those that it wins against.
func TestLeaves(t *testing.T) {
	for number := range 7 * 7 * 7 * 7 {
		var l []api.Version
		rest := number
		for peer := range 4 {
			kind := rest % 7
			rest /= 7
			switch {
			case kind > 3:
				l = append(l, dead(peer, kind-3))
			case kind > 0:
				l = append(l, live(peer, kind, strconv.Itoa(kind)+" by "+strconv.Itoa(peer)))
			}
		}
		all := []api.Entry{entry("a", l...)}
		if len(l) == 0 {
			all = nil
		}
		x := made(t, all)
		hold(t, x, all, []string{"", "a", "a/b"})
		holdOrder(t, l, All(x, "a"))
	}
}

// holdOrder holds that these are the data of a leaf's live versions, that the Winner's are the first, and that each wins against those behind it. Data of versions differ.
func holdOrder(t *testing.T, l []api.Version, data []string) {
	t.Helper()
	var told []api.Version
	for _, s := range data {
		at := slices.IndexFunc(l, func(v api.Version) bool { return !v.Dead && v.Data == s })
		if at < 0 {
			t.Fatalf("of %s comes %q", tellLeaf(l), s)
		}
		told = append(told, l[at])
	}
	if len(told) != len(sibling.Live(l)) {
		t.Fatalf("of %s come %q", tellLeaf(l), data)
	}
	if best, is := sibling.Winner(l); is && best.Dot != told[0].Dot {
		t.Fatalf("of %s comes %q first", tellLeaf(l), data[0])
	}
	for i, v := range told {
		for _, w := range told[i+1:] {
			if !sibling.Wins(v, w) {
				t.Fatalf("of %s comes %q ahead of %q", tellLeaf(l), v.Data, w.Data)
			}
		}
	}
}

// 17.1: of a leaf of as many versions as may be, all come, with the same Count of all, and with others.
func TestAllPeers(t *testing.T) {
	draw := rand.New(rand.NewSource(171))
	for round := range 20 {
		var l []api.Version
		for peer := range lastPeer + 1 {
			l = append(l, live(peer, 1+draw.Intn(1+round*7), "by "+strconv.Itoa(peer)))
		}
		x := made(t, []api.Entry{entry("a", l...)})
		hold(t, x, []api.Entry{entry("a", l...)}, []string{"", "a"})
		holdOrder(t, l, All(x, "a"))
	}
}

// toldDir are the names in a directory, or in another text.
type toldDir struct {
	dir   string
	names []Name
}

// toldDirs are, of the told tree, directories and other texts with the names in them.
func toldDirs() []toldDir {
	return []toldDir{
		// "a" and "d" are files with others below them, "h" is one alone; "a-b" has no version of its own, "ab" a Dead one alone; below "f" there is none but Dead ones.
		{"", []Name{{"a", true, true}, {"a-b", false, true}, {"ab", false, true}, {"d", true, true}, {"h", true, false}}},
		// Below "a/b" there is none but a Dead one.
		{"a", []Name{{"b", true, false}, {"d", true, false}, {"e", true, false}}},
		{"a-b", []Name{{"c", false, true}}},
		{"a-b/c", []Name{{"d", false, true}}},
		{"a-b/c/d", []Name{{"e", true, false}}},
		{"ab", []Name{{"x", true, false}}},
		{"d", []Name{{"e", true, false}}},
		// Nothing is below, or nothing but Dead ones.
		{"a/b", nil}, {"a/b/c", nil}, {"f", nil}, {"f/g", nil}, {"h", nil}, {"d/e", nil}, {"a-b/c/d/e", nil},
		// The tree has nothing there, or it is no directory.
		{"b", nil}, {"a-", nil}, {"a/", nil}, {"/", nil}, {"/a", nil}, {"//", nil}, {"a-b//d", nil}, {"a-b/c/", nil}, {".", nil}, {"a/..", nil}, {"A", nil}, {"a-b/c/d/e/f", nil}, {longest("z"), nil}, {strings.Repeat("a", mostPath+1), nil}, {strings.Repeat("a/", mostPath), nil},
	}
}

// 17.2: Names, written down.
func TestDirsTold(t *testing.T) {
	all := told()
	x := made(t, all)
	for _, c := range toldDirs() {
		if got := Names(x, c.dir); !slices.Equal(got, c.names) {
			t.Errorf("the names in %s are %v", short(c.dir), got)
		}
		holdDir(t, x, all, c.dir)
	}
	hold(t, x, all, near(ways(pathsIn(all))))
}

// pathsIn are the paths of entries.
func pathsIn(l []api.Entry) []string {
	var all []string
	for _, e := range l {
		all = append(all, e.Path)
	}
	return all
}

// 17.2: names rise byte by byte ('a', then 'a-b', then 'ab'), files by 4's Compare ('a', then 'a/b', then 'a-b'), in whatever order they were set.
func TestRising(t *testing.T) {
	all := []api.Entry{entry("a", live(0, 1, "1")), entry("a/b", live(0, 2, "2")), entry("a-b", live(0, 3, "3")), entry("ab", live(0, 4, "4"))}
	files := []File{{"a", "1"}, {"a/b", "2"}, {"a-b", "3"}, {"ab", "4"}}
	names := []Name{{"a", true, true}, {"a-b", true, false}, {"ab", true, false}}
	for _, mixed := range ordersOf(all) {
		x := made(t, mixed)
		if got := Files(x); !slices.Equal(got, files) {
			t.Errorf("the files are %q", got)
		}
		if got := Names(x, ""); !slices.Equal(got, names) {
			t.Errorf("the names are %v", got)
		}
	}
}

// ordersOf are entries in all orders.
func ordersOf(l []api.Entry) [][]api.Entry {
	if len(l) == 0 {
		return [][]api.Entry{nil}
	}
	var all [][]api.Entry
	for i, e := range l {
		for _, rest := range ordersOf(slices.Delete(slices.Clone(l), i, i+1)) {
			all = append(all, append([]api.Entry{e}, rest...))
		}
	}
	return all
}

// 17.2: each name comes once, of however many files below it, and each sign stands where its byte does.
func TestNamesOnce(t *testing.T) {
	all := entriesLive("a/b", "a/c/d", "a/c/e", "a", "b", "c/x/y/z", "c/x/y/a", "c/x/z", "c-/a", "c.", "c./a", "c0/a/b/c")
	x := made(t, all)
	for dir, want := range map[string][]Name{
		"":     {{"a", true, true}, {"b", true, false}, {"c", false, true}, {"c-", false, true}, {"c.", true, true}, {"c0", false, true}},
		"a":    {{"b", true, false}, {"c", false, true}},
		"a/c":  {{"d", true, false}, {"e", true, false}},
		"c":    {{"x", false, true}},
		"c/x":  {{"y", false, true}, {"z", true, false}},
		"c0/a": {{"b", false, true}},
	} {
		if got := Names(x, dir); !slices.Equal(got, want) {
			t.Errorf("the names in %q are %v", dir, got)
		}
	}
	var of []string
	var want []Name
	for _, sign := range strings.Split(signs, "") {
		of, want = append(of, "n"+sign), append(want, Name{"n" + sign, true, false})
	}
	if got := Names(made(t, entriesLive(of...)), ""); !slices.Equal(got, want) {
		t.Errorf("the names are %v", got)
	}
}

// entriesLive are these paths, each with a live version.
func entriesLive(of ...string) []api.Entry {
	var all []api.Entry
	for i, path := range of {
		all = append(all, entry(path, live(0, 1+i, "data "+strconv.Itoa(i))))
	}
	return all
}

// fewPaths are paths below one another and beside, rising, for trees of all kinds.
func fewPaths() []string {
	return []string{"a", "a/b", "a/b/c", "a/b-", "a-", "ab/a"}
}

// fewTrees are the entries of all trees of the few paths, each with nothing, a Dead version, a live one, or two live ones beside a Dead one; told for each alike, so that trees that show the same are among them.
func fewTrees() [][]api.Entry {
	leaves := [][]api.Version{nil, versions(dead(0, 3)), versions(live(1, 2, "x")), versions(dead(0, 3), live(1, 2, "x"), live(2, 2, "y"))}
	trees := [][]api.Entry{nil}
	for _, path := range fewPaths() {
		var next [][]api.Entry
		for _, l := range trees {
			for _, leaf := range leaves {
				with := slices.Clone(l)
				if len(leaf) > 0 {
					with = append(with, entry(path, leaf...))
				}
				next = append(next, with)
			}
		}
		trees = next
	}
	return trees
}

// 17.1 to 17.3: all trees of six paths below one another and beside, with leaves of four kinds each.
func TestFewPaths(t *testing.T) {
	texts := append(ways(fewPaths()), "a/b/", "/", "b")
	for _, all := range fewTrees() {
		hold(t, made(t, all), all, texts)
	}
}

// 17.2: Files, written down: no deleted path, and each with its Winner's data.
func TestFilesTold(t *testing.T) {
	want := []File{{"a", "alone"}, {"a/b", "two"}, {"a/d", ""}, {"a/e", "right"}, {"a-b/c/d/e", "deep"}, {"ab/x", "lives"}, {"d", "other"}, {"d/e", ""}, {"h", strings.Repeat("m", mostData)}}
	if got := Files(made(t, told())); !slices.Equal(got, want) {
		t.Errorf("the files are %q", got)
	}
	deleted := made(t, []api.Entry{entry("a", dead(0, 1)), entry("b/c", dead(0, 2), dead(1, 1))})
	if l, conflicts, names := Files(deleted), Conflicts(deleted), Names(deleted, ""); len(l) != 0 || len(conflicts) != 0 || len(names) != 0 {
		t.Errorf("where all is deleted there are %q, %q, %v", l, conflicts, names)
	}
}

// 17.3: Conflicts, written down: paths of two and more live versions, rising by 4's Compare, also where the data are the same.
func TestConflictsTold(t *testing.T) {
	if got, want := Conflicts(made(t, told())), []string{"a/b", "a/e", "d", "d/e", "h"}; !slices.Equal(got, want) {
		t.Errorf("the conflicts are %q", got)
	}
	two := versions(live(0, 1, "x"), live(1, 1, "x"))
	x := made(t, []api.Entry{{Path: "ab", Versions: two}, {Path: "a-b", Versions: two}, {Path: "a/b", Versions: two}, {Path: "a", Versions: two}})
	if got, want := Conflicts(x), []string{"a", "a/b", "a-b", "ab"}; !slices.Equal(got, want) {
		t.Errorf("the conflicts are %q", got)
	}
	x = made(t, []api.Entry{entry("a", live(0, 1, "x"), dead(1, 1)), entry("b", dead(0, 1), dead(1, 1)), entry("c", live(0, 1, "x")), entry("d", eachPeer(0)...), entry("e", dead(0, 1), live(1, 1, ""), dead(2, 1), live(3, 1, ""))})
	if got, want := Conflicts(x), []string{"d", "e"}; !slices.Equal(got, want) {
		t.Errorf("the conflicts are %q", got)
	}
}

// whole is all that users see of a tree, asked with some texts, as one text.
func whole(x *tree.Tree, texts []string) string {
	var s strings.Builder
	for _, text := range texts {
		data, err := Read(x, text)
		s.WriteString(strconv.Quote(data) + strconv.Itoa(int(err)))
		for _, data := range All(x, text) {
			s.WriteString(" " + strconv.Quote(data))
		}
		for _, n := range Names(x, text) {
			s.WriteString(" " + n.Name + strconv.FormatBool(n.File) + strconv.FormatBool(n.Dir))
		}
		s.WriteString("\n")
	}
	for _, f := range Files(x) {
		s.WriteString(" " + f.Path + strconv.Quote(f.Data))
	}
	s.WriteString("\n" + strings.Join(Conflicts(x), " "))
	return s.String()
}

// 17.4: of trees that are seen as the same users see the same: of all trees of the few paths those of one digest are told alike, and there are as many digests as there are ways to show something.
func TestSeenAsTheSame(t *testing.T) {
	texts := append(ways(fewPaths()), "b", "/")
	told := map[api.Digest]string{}
	shows := map[string]bool{}
	for _, all := range fewTrees() {
		x := made(t, all)
		s := whole(x, texts)
		shows[s] = true
		if other, is := told[x.Seen()]; is && s != other {
			t.Fatalf("of %s users see\n%s\nand of one that is seen as the same\n%s", tellEntries(all), s, other)
		}
		told[x.Seen()] = s
	}
	if len(told) != 729 || len(shows) != 729 { // each of six paths shows nothing, one version, or two
		t.Errorf("%d digests, %d ways to show", len(told), len(shows))
	}
}

// 17.4: users see of a tree what they see of the tree of its live versions alone, whatever Dead ones come to it or go.
func TestDeadDontCount(t *testing.T) {
	draw := rand.New(rand.NewSource(174))
	trees := [][]api.Entry{nil, told(), entries(goodPaths()...), risingWords(entries(manyPaths(mostPaths, shared)...))}
	for range 60 {
		trees = append(trees, drawnTree(draw))
	}
	for _, all := range trees {
		texts := slices.Concat(ways(pathsIn(all)), []string{"b", "/", "a/"})
		x, alone := made(t, all), made(t, seenWords(all))
		more := made(t, deadBeside(all))
		if x.Seen() != alone.Seen() || x.Seen() != more.Seen() {
			t.Fatalf("%s is not seen as without what is Dead, or with more", tellEntries(all))
		}
		s := whole(x, texts)
		if got := whole(alone, texts); got != s {
			t.Fatalf("of %s users see\n%s\nbut of the live versions alone\n%s", tellEntries(all), s, got)
		}
		if got := whole(more, texts); got != s {
			t.Fatalf("of %s users see\n%s\nbut with more Dead ones\n%s", tellEntries(all), s, got)
		}
	}
}

// deadBeside are entries with one Dead version more, of the last peer, where that one has none, and with more paths that are deleted.
func deadBeside(l []api.Entry) []api.Entry {
	l = copyOf(l)
	for i, e := range l {
		if e.Versions[len(e.Versions)-1].Dot.Peer < lastPeer && slices.IndexFunc(e.Versions, func(v api.Version) bool {
			return slices.ContainsFunc(v.Past, func(d api.Dot) bool { return d.Peer == lastPeer })
		}) < 0 {
			l[i].Versions = append(e.Versions, dead(lastPeer, top))
		}
	}
	for _, path := range []string{"a/a/a/a", "b/-", "zzz", "zzz/a"} {
		has := slices.Contains(pathsIn(l), path)
		if !has && len(l) < mostPaths {
			l = append(l, entry(path, dead(0, top)))
		}
	}
	return l
}

// drawnTree are the entries of a tree that is drawn, rising.
func drawnTree(draw *rand.Rand) []api.Entry {
	var of []string
	for range draw.Intn(60) {
		of = append(of, drawnPath(draw))
	}
	slices.Sort(of)
	var all []api.Entry
	for _, path := range slices.Compact(of) {
		if l := drawnLeaf(draw); len(l) > 0 {
			all = append(all, entry(path, l...))
		}
	}
	return risingWords(all)
}

// 17.1 to 17.3: drawn trees, set in drawn orders, asked with texts that are drawn.
func TestDrawn(t *testing.T) {
	draw := rand.New(rand.NewSource(170))
	for range 100 {
		all := drawnTree(draw)
		mixed := slices.Clone(all)
		draw.Shuffle(len(mixed), func(i, j int) { mixed[i], mixed[j] = mixed[j], mixed[i] })
		var texts []string
		for range 8 {
			texts = append(texts, drawnPath(draw))
		}
		texts = append(near(texts)[:50], ways(pathsIn(all[:min(len(all), 8)]))...)
		texts = append(texts, noPaths()[draw.Intn(len(noPaths()))])
		x := made(t, mixed)
		hold(t, x, all, texts)
		if whole(made(t, all), texts) != whole(x, texts) {
			t.Fatalf("of %s and of the same in another order users see what differs", tellEntries(all))
		}
	}
}

// 17.1 to 17.3: files as peers make them: written, written over, deleted, and synced with those of others.
func TestGrown(t *testing.T) {
	const peers = 3
	draw := rand.New(rand.NewSource(173))
	for range 30 {
		trees := make([]*tree.Tree, peers)
		counts := make([]int, peers)
		for range 60 {
			at, path := draw.Intn(peers), []string{"a", "a/b", "c/d"}[draw.Intn(3)]
			l := trees[at].Get(path)
			d := dot(at, counts[at]+1)
			next, err := l, api.OK
			switch draw.Intn(3) {
			case 0:
				next, err = sibling.Write(l, d, "data "+strconv.Itoa(draw.Intn(4)))
			case 1:
				next, err = sibling.Erase(l, d)
			default:
				next = sibling.Sync(l, trees[draw.Intn(peers)].Get(path))
			}
			if err != api.OK {
				continue // there was nothing to delete
			}
			counts[at]++
			x, err := trees[at].Set(path, next)
			if err != api.OK {
				t.Fatal(err)
			}
			trees[at] = x
			hold(t, x, x.Entries(), []string{"", "a", "a/b", "c", "c/d"})
		}
	}
}

// 17.1 to 17.3: trees that have as many paths as may be, of three shapes.
func TestFull(t *testing.T) {
	for _, dir := range []func(int) string{flat, shared, deep} {
		of := manyPaths(mostPaths, dir)
		all := risingWords(entriesLive(of...))
		x := made(t, all)
		hold(t, x, all, ways(of))
		if files := Files(x); len(files) != mostPaths {
			t.Errorf("there are %d files", len(files))
		}
		all = risingWords(entries(of...))
		hold(t, made(t, all), all, ways(of[:8]))
	}
	if names := Names(made(t, entriesLive(manyPaths(mostPaths, flat)...)), ""); len(names) != mostPaths {
		t.Errorf("there are %d names in the root", len(names))
	}
}

// 17.1 to 17.3: each path by itself, live and Dead: it is a file at its own place, and in all directories in which it is a name comes.
func TestOnePath(t *testing.T) {
	texts := slices.Concat(near(ways([]string{"a/b/c/d", "b-", "ab/a"})), goodPaths(), noPaths())
	for i, path := range goodPaths() {
		for _, leaf := range [][]api.Version{versions(live(0, 1, "x")), leafOf(i)} {
			all := []api.Entry{{Path: path, Versions: leaf}}
			hold(t, made(t, all), all, slices.Concat(texts, near(ways([]string{path}))))
		}
	}
}

// R5: a tree that is asked again and again answers the same, though the names are gone through by a map.
func TestOften(t *testing.T) {
	all := risingWords(entries(append(goodPaths(), manyPaths(60, shared)...)...))
	texts := []string{"", "a", "a/b", "s0", "s1", "s2/t2", "/"}
	x, y := made(t, all), made(t, all)
	want := whole(x, texts)
	for range 100 {
		if got := whole(x, texts); got != want {
			t.Fatalf("users see\n%s\nand then\n%s", want, got)
		}
	}
	if got := whole(y, texts); got != want {
		t.Fatalf("users see\n%s\nand of the same tree\n%s", want, got)
	}
	hold(t, x, all, texts)
}

// R4: what is handed out is new memory: written over, it changes no tree, and nothing else that was handed out.
func TestHandedOut(t *testing.T) {
	all := told()
	x := made(t, all)
	root := x.Root()
	texts := ways(pathsIn(all))
	for _, s := range texts {
		data, names := All(x, s), Names(x, s)
		again, more := All(x, s), Names(x, s)
		fill(data, "over")
		fill(names, Name{"over", true, true})
		if !slices.Equal(again, allWords(all, s)) || !slices.Equal(more, namesWords(all, s)) {
			t.Errorf("of %q came %q, %v, when others were written over", s, again, more)
		}
	}
	files, conflicts := Files(x), Conflicts(x)
	others, more := Files(x), Conflicts(x)
	fill(files, File{"over", "over"})
	fill(conflicts, "over")
	if !slices.Equal(others, filesWords(all)) || !slices.Equal(more, conflictsWords(all)) {
		t.Errorf("%q, %q came, when others were written over", others, more)
	}
	hold(t, x, all, texts)
	if x.Root() != root {
		t.Errorf("the tree is another one")
	}
}

// fill writes a thing over all that a list has, up to its capacity.
func fill[T any](l []T, over T) {
	l = l[:cap(l)]
	for i := range l {
		l[i] = over
	}
}

// R1: calls with very long texts come to an end soon.
func TestLong(t *testing.T) {
	x := made(t, risingWords(entries(manyPaths(mostPaths, deep)...)))
	for _, s := range []string{strings.Repeat("a", 1<<22), strings.Repeat("/", 1<<22), strings.Repeat("a/", 1<<21), "a0/b0/c0/p0" + strings.Repeat("\x00", 1<<22), "a0/b0/c0/" + strings.Repeat("/", 1<<22)} {
		if data, err := Read(x, s); data != "" || err != api.ErrSize {
			t.Errorf("at %s is %q, %v", short(s), data, err)
		}
		if len(All(x, s)) != 0 || len(Names(x, s)) != 0 {
			t.Errorf("there is something at %s, or in it", short(s))
		}
	}
}

// R1, R4, R5: a tree that many ask at once shows all the same.
func TestManyAtOnce(t *testing.T) {
	all := told()
	x := made(t, all)
	texts := ways(pathsIn(all))
	want := whole(x, texts)
	var each sync.WaitGroup
	for range 8 {
		each.Go(func() {
			for range 10 {
				if got := whole(x, texts); got != want {
					t.Errorf("asked at once users see\n%s\nnot\n%s", got, want)
				}
				fill(Files(x), File{})
				fill(Names(x, ""), Name{})
				fill(All(x, "a/b"), "")
				fill(Conflicts(x), "")
			}
		})
	}
	each.Wait()
	hold(t, x, all, texts)
}

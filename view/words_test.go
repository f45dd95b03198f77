package view

import (
	"math/rand"
	"slices"
	"strconv"
	"strings"

	"hearsay/api"
)

// The limits as numbers: of a peer, a count, of a version's data, of a name, of a path's names and bytes, of a tree's paths.
const (
	lastPeer  = 63
	top       = 1048576
	mostData  = 48
	mostName  = 12
	mostParts = 4
	mostPath  = 51
	mostPaths = 128
	signs     = "-.0123456789_abcdefghijklmnopqrstuvwxyz" // that may stand in a name, rising
)

// short is a text, or its beginning, and how many bytes it has.
func short(s string) string {
	if len(s) <= 80 {
		return strconv.Quote(s)
	}
	return strconv.Quote(s[:80]) + " of " + strconv.Itoa(len(s))
}

// tellDots tells dots, or the first ones, in a few signs.
func tellDots(dots []api.Dot) string {
	s := "{"
	for _, d := range dots[:min(len(dots), 5)] {
		s += " " + strconv.Itoa(d.Peer) + ":" + strconv.Itoa(d.Count)
	}
	return s + " }"
}

// tellLeaf tells versions in a few signs.
func tellLeaf(l []api.Version) string {
	s := "("
	for _, v := range l[:min(len(l), 4)] {
		s += tellDots([]api.Dot{v.Dot}) + tellDots(v.Past) + strconv.FormatBool(v.Dead) + short(v.Data) + " "
	}
	return s + "of " + strconv.Itoa(len(l)) + ")"
}

// tellEntries tells entries in a few signs.
func tellEntries(l []api.Entry) string {
	s := "["
	for _, e := range l[:min(len(l), 8)] {
		s += short(e.Path) + tellLeaf(e.Versions) + " "
	}
	return s + "of " + strconv.Itoa(len(l)) + "]"
}

// sameLeafWords tells whether two lists of versions are the same, field by field.
func sameLeafWords(l, m []api.Version) bool {
	return slices.EqualFunc(l, m, func(v, w api.Version) bool {
		return v.Dot.Peer == w.Dot.Peer && v.Dot.Count == w.Dot.Count && slices.Equal(v.Past, w.Past) && v.Dead == w.Dead && v.Data == w.Data
	})
}

// sameEntriesWords tells whether two lists of entries are the same.
func sameEntriesWords(l, m []api.Entry) bool {
	return slices.EqualFunc(l, m, func(d, e api.Entry) bool {
		return d.Path == e.Path && sameLeafWords(d.Versions, e.Versions)
	})
}

// dot is a dot.
func dot(peer, count int) api.Dot {
	return api.Dot{Peer: peer, Count: count}
}

// list is a list of dots, told by peers and counts.
func list(numbers ...int) []api.Dot {
	var dots []api.Dot
	for i := 0; i+1 < len(numbers); i += 2 {
		dots = append(dots, dot(numbers[i], numbers[i+1]))
	}
	return dots
}

// live is a live version, its Past told by peers and counts.
func live(peer, count int, data string, past ...int) api.Version {
	return api.Version{Dot: dot(peer, count), Past: list(past...), Data: data}
}

// dead is a version that is Dead, its Past told by peers and counts.
func dead(peer, count int, past ...int) api.Version {
	return api.Version{Dot: dot(peer, count), Past: list(past...), Dead: true}
}

// versions are versions as a list.
func versions(l ...api.Version) []api.Version {
	return l
}

// entries are these paths, each with a leaf of its own.
func entries(of ...string) []api.Entry {
	var all []api.Entry
	for i, path := range of {
		all = append(all, api.Entry{Path: path, Versions: leafOf(i)})
	}
	return all
}

// leafOf is a leaf that is told by a number: of one version that is live, of one that is Dead, of some of both, of Dead ones alone, of one with much, of one of each peer.
func leafOf(number int) []api.Version {
	peer, count, of := number%60, 2+number, " of "+strconv.Itoa(number)
	switch number % 8 {
	case 1:
		return versions(dead(peer, count, 62, 1))
	case 2:
		return versions(live(peer, count, "one"+of, 61, 1), dead(peer+1, count), live(lastPeer, top, ""))
	case 3:
		return versions(live(peer, count, strings.Repeat("d", mostData), othersThan(peer)...))
	case 4:
		return versions(live(peer, count, "one"+of), live(peer+1, count, "two"+of), dead(peer+2, top), live(peer+3, count-1, "one"+of))
	case 5:
		return versions(dead(peer, top), live(peer+1, 1, "one"+of), dead(peer+2, top))
	case 6:
		return versions(dead(peer, count), dead(peer+1, count+1))
	case 7:
		return eachPeer(number)
	}
	return versions(live(peer, count, "data"+of))
}

// eachPeer is a leaf of one version of each peer, each third one of them Dead.
func eachPeer(number int) []api.Version {
	var l []api.Version
	for peer := range lastPeer + 1 {
		if peer%3 == number%3 {
			l = append(l, dead(peer, 1+peer*7%64))
		} else {
			l = append(l, live(peer, 1+peer*5%16, "by "+strconv.Itoa(peer)))
		}
	}
	return l
}

// othersThan are a dot of each peer but one, as peers and counts.
func othersThan(but int) []int {
	var numbers []int
	for peer := range lastPeer + 1 {
		if peer != but {
			numbers = append(numbers, peer, 1+peer)
		}
	}
	return numbers
}

// nameWords tells by chapter 4's words whether a text is a name.
func nameWords(s string) bool {
	return s != "" && s != "." && s != ".." && len(s) <= mostName && strings.Trim(s, signs) == ""
}

// pathWords tells by chapter 4's words whether a text is a path.
func pathWords(s string) bool {
	names := strings.Split(s, "/")
	return len(names) <= mostParts && !slices.ContainsFunc(names, func(name string) bool { return !nameWords(name) })
}

// checkWords is by 4.1's words Check.
func checkWords(s string) api.Errno {
	if len(s) > mostPath {
		return api.ErrSize
	}
	if !pathWords(s) {
		return api.ErrPath
	}
	return api.OK
}

// upWords are by chapter 4's words a directory's names; false: it is none.
func upWords(dir string) ([]string, bool) {
	if dir == "" {
		return nil, true
	}
	if !pathWords(dir) {
		return nil, false
	}
	return strings.Split(dir, "/"), true
}

// compareWords tells by chapter 4's words which of two texts stands ahead.
func compareWords(a, b string) int {
	return slices.Compare(strings.Split(a, "/"), strings.Split(b, "/"))
}

// belowWords are by chapter 4's words a path's names behind those of a directory; none, if it is not below it.
func belowWords(path, dir string) []string {
	above, is := upWords(dir)
	names := strings.Split(path, "/")
	if !is || len(names) <= len(above) || !slices.Equal(names[:len(above)], above) {
		return nil
	}
	return names[len(above):]
}

// risingWords are entries, rising by chapter 4's words.
func risingWords(l []api.Entry) []api.Entry {
	return slices.SortedFunc(slices.Values(l), func(d, e api.Entry) int { return compareWords(d.Path, e.Path) })
}

// liveWords are by 7's words the live versions at a path, those first that win against the others.
func liveWords(all []api.Entry, path string) []api.Version {
	var l []api.Version
	for _, e := range all {
		for _, v := range e.Versions {
			if e.Path == path && !v.Dead {
				l = append(l, v)
			}
		}
	}
	slices.SortFunc(l, func(v, w api.Version) int { // by its Count and its Peer as one number, the greatest first
		return (w.Dot.Count*(lastPeer+1) + w.Dot.Peer) - (v.Dot.Count*(lastPeer+1) + v.Dot.Peer)
	})
	return l
}

// allWords is by 17.1's words All, of the entries of a tree.
func allWords(all []api.Entry, path string) []string {
	var data []string
	for _, v := range liveWords(all, path) {
		data = append(data, v.Data)
	}
	return data
}

// readWords is by 17.1's words Read.
func readWords(all []api.Entry, path string) (string, api.Errno) {
	if err := checkWords(path); err != api.OK {
		return "", err
	}
	data := allWords(all, path)
	if len(data) == 0 {
		return "", api.ErrNone
	}
	return data[0], api.OK
}

// filesWords is by 17.2's words Files, of the entries of a tree, rising.
func filesWords(all []api.Entry) []File {
	var files []File
	for _, e := range all {
		if data, err := readWords(all, e.Path); err == api.OK {
			files = append(files, File{e.Path, data})
		}
	}
	return files
}

// namesWords is by 17.2's words Names: each name that any file has at that place is asked by itself.
func namesWords(all []api.Entry, dir string) []Name {
	var below [][]string
	var first []string
	for _, f := range filesWords(all) {
		if names := belowWords(f.Path, dir); len(names) > 0 {
			below, first = append(below, names), append(first, names[0])
		}
	}
	slices.Sort(first)
	var told []Name
	for _, name := range slices.Compact(first) {
		told = append(told, Name{
			Name: name,
			File: slices.ContainsFunc(below, func(names []string) bool { return names[0] == name && len(names) == 1 }),
			Dir:  slices.ContainsFunc(below, func(names []string) bool { return names[0] == name && len(names) > 1 }),
		})
	}
	return told
}

// conflictsWords is by 17.3's words Conflicts, of the entries of a tree, rising.
func conflictsWords(all []api.Entry) []string {
	var conflicts []string
	for _, e := range all {
		if len(liveWords(all, e.Path)) > 1 {
			conflicts = append(conflicts, e.Path)
		}
	}
	return conflicts
}

// seenWords are by chapter 15's words what is seen of entries: the live versions alone, and the paths that have one.
func seenWords(all []api.Entry) []api.Entry {
	var seen []api.Entry
	for _, e := range copyOf(all) {
		e.Versions = slices.DeleteFunc(e.Versions, func(v api.Version) bool { return v.Dead })
		if len(e.Versions) > 0 {
			seen = append(seen, e)
		}
	}
	return seen
}

// longest is a path as long as one may be.
func longest(last string) string {
	name := strings.Repeat("n", mostName)
	return name + "/" + name + "/" + name + "/" + strings.Repeat("m", mostName-len(last)) + last
}

// goodPaths are paths, rising by 4's Compare: some that byte by byte stand otherwise ("a-b" ahead of "a/b"), names that others begin with, and the longest ones.
func goodPaths() []string {
	return []string{"-", "...", "0", "_", "a", "a/-", "a/b", "a/b/c", "a/b/c/d", "a/b/c/d.", "a/b/c.d", "a/b-c", "a/bb", "a/c", "a-", "a-b", "a-b/c", "a.b", "a0", "a_", "aa", "aa/a", "ab", "ab/b", "b/a/a/a", "b/a/a/b", "b/a/b", longest("k"), longest("z"), "z/z/z/z", "zz"}
}

// noPaths are texts that are no paths, but for the empty one, which is the root.
func noPaths() []string {
	return []string{"/", ".", "..", "a/", "/a", "//", "a//", "a//b", "a/b/", "a/..", "./a", "a/.", "a/./b", "a/b/c/d/", "a/b/c/d/e", "A", "a/B", "a b", "a\x00", "\x00", "\xff", "é", "a\xff", "a+b", "a\\b", "a/b\x00", "///", "////", strings.Repeat("n", mostName+1), "a/" + strings.Repeat("n", mostName+1), strings.Repeat("n", mostPath), strings.Repeat("n", mostPath+1), strings.Repeat("/", mostPath+1), longest("") + "n", longest("") + "/a", longest("")[:mostPath-1] + "/", strings.Repeat("a/", 1000), strings.Repeat("\x00", api.MaxText+1)}
}

// manyPaths are so many paths, each below a directory that is told by a function of its number.
func manyPaths(count int, dir func(int) string) []string {
	var all []string
	for i := range count {
		all = append(all, dir(i)+"p"+strconv.Itoa(i))
	}
	return all
}

// flat, shared and deep tell directories: the root, one of nine, and one of each path's own.
func flat(int) string { return "" }

func shared(i int) string { return "s" + strconv.Itoa(i%3) + "/t" + strconv.Itoa(i%9) + "/" }

func deep(i int) string {
	number := strconv.Itoa(i)
	return "a" + number + "/b" + number + "/c" + number + "/"
}

// drawnLeaf is a leaf that is drawn: of some peers, with small counts, live or Dead, with Pasts in which no other version of it is, and data that often are the same.
func drawnLeaf(draw *rand.Rand) []api.Version {
	var l []api.Version
	for peer := range 6 {
		if draw.Intn(3) > 0 {
			continue
		}
		v := dead(peer, 2+draw.Intn(4))
		if draw.Intn(2) == 0 {
			v = live(peer, v.Dot.Count, []string{"", "x", "y", "z"}[draw.Intn(4)])
		}
		if draw.Intn(2) == 0 {
			v.Past = list(draw.Intn(6), 1, 6+draw.Intn(6), 1+draw.Intn(9))
		}
		l = append(l, v)
	}
	return l
}

// drawnPath is a path that is drawn, of few names, so that many meet.
func drawnPath(draw *rand.Rand) string {
	few := []string{"a", "a-", "a.b", "ab", "b", "c"}
	var names []string
	for range 1 + draw.Intn(mostParts) {
		names = append(names, few[draw.Intn(len(few))])
	}
	return strings.Join(names, "/")
}

// textsOf are all texts of up to so many of some bytes.
func textsOf(most int, bytes string) []string {
	all := []string{""}
	ahead := all
	for range most {
		var next []string
		for _, s := range ahead {
			for i := range len(bytes) {
				next = append(next, s+bytes[i:i+1])
			}
		}
		all, ahead = append(all, next...), next
	}
	return all
}

// copyOf are entries that share no memory with others.
func copyOf(l []api.Entry) []api.Entry {
	l = slices.Clone(l)
	for i, e := range l {
		l[i].Versions = slices.Clone(e.Versions)
		for j, v := range l[i].Versions {
			l[i].Versions[j].Past = slices.Clone(v.Past)
		}
	}
	return l
}

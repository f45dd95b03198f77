package walk

import (
	"math/rand"
	"slices"
	"strconv"
	"strings"

	"hearsay/api"
)

// The limits as numbers: of a count, of a version's data, of a name, of a path's names and bytes, of a tree's paths.
const (
	lastPeer  = 63
	top       = 1048576
	mostData  = 48
	mostName  = 12
	mostParts = 4
	mostPath  = 51
	mostPaths = 128
	signs     = "-.0123456789_abcdefghijklmnopqrstuvwxyz" // that may stand in a name, rising
)

// short is a text, or its beginning, and how many bytes it has.
func short(s string) string {
	if len(s) <= 80 {
		return strconv.Quote(s)
	}
	return strconv.Quote(s[:80]) + " of " + strconv.Itoa(len(s))
}

// tellDots tells dots, or the first ones, in a few signs.
func tellDots(dots []api.Dot) string {
	s := "{"
	for _, d := range dots[:min(len(dots), 5)] {
		s += " " + strconv.Itoa(d.Peer) + ":" + strconv.Itoa(d.Count)
	}
	return s + " }"
}

// tellLeaf tells versions in a few signs.
func tellLeaf(l []api.Version) string {
	s := "("
	for _, v := range l[:min(len(l), 4)] {
		s += tellDots([]api.Dot{v.Dot}) + tellDots(v.Past) + strconv.FormatBool(v.Dead) + short(v.Data) + " "
	}
	return s + "of " + strconv.Itoa(len(l)) + ")"
}

// tellEntries tells entries in a few signs.
func tellEntries(l []api.Entry) string {
	s := "["
	for _, e := range l[:min(len(l), 8)] {
		s += short(e.Path) + tellLeaf(e.Versions) + " "
	}
	return s + "of " + strconv.Itoa(len(l)) + "]"
}

// sameLeafWords tells whether two lists of versions are the same, field by field.
func sameLeafWords(l, m []api.Version) bool {
	return slices.EqualFunc(l, m, func(v, w api.Version) bool {
		return v.Dot.Peer == w.Dot.Peer && v.Dot.Count == w.Dot.Count && slices.Equal(v.Past, w.Past) && v.Dead == w.Dead && v.Data == w.Data
	})
}

// sameEntriesWords tells whether two lists of entries are the same.
func sameEntriesWords(l, m []api.Entry) bool {
	return slices.EqualFunc(l, m, func(d, e api.Entry) bool {
		return d.Path == e.Path && sameLeafWords(d.Versions, e.Versions)
	})
}

// dot is a dot.
func dot(peer, count int) api.Dot {
	return api.Dot{Peer: peer, Count: count}
}

// list is a list of dots, told by peers and counts.
func list(numbers ...int) []api.Dot {
	var dots []api.Dot
	for i := 0; i+1 < len(numbers); i += 2 {
		dots = append(dots, dot(numbers[i], numbers[i+1]))
	}
	return dots
}

// live is a live version, its Past told by peers and counts.
func live(peer, count int, data string, past ...int) api.Version {
	return api.Version{Dot: dot(peer, count), Past: list(past...), Data: data}
}

// dead is a version that is Dead, its Past told by peers and counts.
func dead(peer, count int, past ...int) api.Version {
	return api.Version{Dot: dot(peer, count), Past: list(past...), Dead: true}
}

// versions are versions as a list.
func versions(l ...api.Version) []api.Version {
	return l
}

// entries are these paths, each with a leaf of its own.
func entries(of ...string) []api.Entry {
	var all []api.Entry
	for i, path := range of {
		all = append(all, api.Entry{Path: path, Versions: leafOf(i)})
	}
	return all
}

// leafOf is a leaf that is told by a number: of one version that is live, of one that is Dead, of two, of some with long lists.
func leafOf(number int) []api.Version {
	peer, count := number%61, 2+number
	switch number % 4 {
	case 1:
		return versions(dead(peer, count, 62, 1))
	case 2:
		return versions(live(peer, count, "one "+strconv.Itoa(number), 61, 1), dead(peer+1, count), live(lastPeer, top, ""))
	case 3:
		return versions(live(peer, count, strings.Repeat("d", mostData), othersThan(peer)...))
	}
	return versions(live(peer, count, "data "+strconv.Itoa(number)))
}

// othersThan are a dot of each peer but one, as peers and counts.
func othersThan(but int) []int {
	var numbers []int
	for peer := range lastPeer + 1 {
		if peer != but {
			numbers = append(numbers, peer, 1+peer)
		}
	}
	return numbers
}

// pathsOf are the paths of entries.
func pathsOf(l []api.Entry) []string {
	var all []string
	for _, e := range l {
		all = append(all, e.Path)
	}
	return all
}

// nameWords tells by chapter 4's words whether a text is a name.
func nameWords(s string) bool {
	return s != "" && s != "." && s != ".." && len(s) <= mostName && strings.Trim(s, signs) == ""
}

// pathWords tells by chapter 4's words whether a text is a path.
func pathWords(s string) bool {
	names := strings.Split(s, "/")
	return len(names) <= mostParts && !slices.ContainsFunc(names, func(name string) bool { return !nameWords(name) })
}

// namesWords are by chapter 4's words a directory's names; false: it is none.
func namesWords(dir string) ([]string, bool) {
	if dir == "" {
		return nil, true
	}
	if !pathWords(dir) {
		return nil, false
	}
	return strings.Split(dir, "/"), true
}

// compareWords tells by chapter 4's words which of two texts stands ahead.
func compareWords(a, b string) int {
	return slices.Compare(strings.Split(a, "/"), strings.Split(b, "/"))
}

// belowWords are by chapter 4's words a path's names behind those of a directory; none, if it is not below it.
func belowWords(path, dir string) []string {
	above, is := namesWords(dir)
	names := strings.Split(path, "/")
	if !is || len(names) <= len(above) || !slices.Equal(names[:len(above)], above) {
		return nil
	}
	return names[len(above):]
}

// risingWords are entries, rising by chapter 4's words.
func risingWords(l []api.Entry) []api.Entry {
	return slices.SortedFunc(slices.Values(l), func(d, e api.Entry) int { return compareWords(d.Path, e.Path) })
}

// underWords is by 16.1's words Under, of all entries of a tree, rising.
func underWords(all []api.Entry, dir string) []api.Entry {
	var l []api.Entry
	for _, e := range all {
		if len(belowWords(e.Path, dir)) > 0 {
			l = append(l, e)
		}
	}
	return l
}

// listWords is by 16.1's words List.
func listWords(all []api.Entry, dir, after string, most int) []api.Entry {
	if most < 1 {
		return nil
	}
	var l []api.Entry
	for _, e := range underWords(all, dir) {
		if compareWords(after, e.Path) < 0 {
			l = append(l, e)
		}
	}
	return l[:min(len(l), most)]
}

// countWords is by 16.1's words Count.
func countWords(all []api.Entry, dir string) int {
	return len(underWords(all, dir)) + len(slices.DeleteFunc(pathsOf(all), func(path string) bool { return path != dir }))
}

// nextWords is by 16.2's words Next.
func nextWords(all []api.Entry, after string) (string, bool) {
	behind := listWords(all, "", after, 1)
	if len(behind) == 0 {
		return "", false
	}
	return behind[0].Path, true
}

// dirsWords is by 16.2's words Dirs.
func dirsWords(all []api.Entry, dir string) []string {
	var names []string
	for _, e := range all {
		if below := belowWords(e.Path, dir); len(below) > 1 && !slices.Contains(names, below[0]) {
			names = append(names, below[0])
		}
	}
	slices.Sort(names)
	return names
}

// depthWords is by 16.2's words Depth.
func depthWords(all []api.Entry) int {
	depth := 0
	for _, e := range all {
		depth = max(depth, strings.Count(e.Path, "/")+1)
	}
	return depth
}

// longest is a path as long as one may be.
func longest(last string) string {
	name := strings.Repeat("n", mostName)
	return name + "/" + name + "/" + name + "/" + strings.Repeat("m", mostName-len(last)) + last
}

// goodPaths are paths, rising by 4's Compare: some that byte by byte stand otherwise ("a-b" ahead of "a/b"), names that others begin with, and the longest ones.
func goodPaths() []string {
	return []string{"-", "...", "0", "_", "a", "a/-", "a/b", "a/b/c", "a/b/c/d", "a/b/c/d.", "a/b/c.d", "a/b-c", "a/bb", "a/c", "a-", "a-b", "a-b/c", "a.b", "a0", "a_", "aa", "aa/a", "ab", "ab/b", "b/a/a/a", "b/a/a/b", "b/a/b", longest("k"), longest("z"), "z/z/z/z", "zz"}
}

// noPaths are texts that are no paths, but for the empty one, which is the root.
func noPaths() []string {
	return []string{"/", ".", "..", "a/", "/a", "//", "a//", "a//b", "a/b/", "a/..", "./a", "a/.", "a/./b", "a/b/c/d/", "a/b/c/d/e", "A", "a/B", "a b", "a\x00", "\x00", "\xff", "é", "a\xff", "a+b", "a\\b", "a/b\x00", "///", "////", strings.Repeat("n", mostName+1), "a/" + strings.Repeat("n", mostName+1), strings.Repeat("n", mostPath), strings.Repeat("n", mostPath+1), strings.Repeat("/", mostPath+1), longest("") + "n", longest("") + "/a", longest("")[:mostPath-1] + "/", strings.Repeat("a/", 1000), strings.Repeat("\x00", api.MaxText+1)}
}

// manyPaths are so many paths, each below a directory that is told by a function of its number.
func manyPaths(count int, dir func(int) string) []string {
	var all []string
	for i := range count {
		all = append(all, dir(i)+"p"+strconv.Itoa(i))
	}
	return all
}

// flat, shared and deep tell directories: the root, one of nine, and one of each path's own.
func flat(int) string { return "" }

func shared(i int) string { return "s" + strconv.Itoa(i%3) + "/t" + strconv.Itoa(i%9) + "/" }

func deep(i int) string {
	number := strconv.Itoa(i)
	return "a" + number + "/b" + number + "/c" + number + "/"
}

// drawnPath is a path that is drawn, of few names, so that many meet.
func drawnPath(draw *rand.Rand) string {
	few := []string{"a", "a-", "a.b", "ab", "b", "c"}
	var names []string
	for range 1 + draw.Intn(mostParts) {
		names = append(names, few[draw.Intn(len(few))])
	}
	return strings.Join(names, "/")
}

// textsOf are all texts of up to so many of some bytes.
func textsOf(most int, bytes string) []string {
	all := []string{""}
	ahead := all
	for range most {
		var next []string
		for _, s := range ahead {
			for i := range len(bytes) {
				next = append(next, s+bytes[i:i+1])
			}
		}
		all, ahead = append(all, next...), next
	}
	return all
}

// copyOf are entries that share no memory with others.
func copyOf(l []api.Entry) []api.Entry {
	l = slices.Clone(l)
	for i, e := range l {
		l[i].Versions = slices.Clone(e.Versions)
		for j, v := range l[i].Versions {
			l[i].Versions[j].Past = slices.Clone(v.Past)
		}
	}
	return l
}

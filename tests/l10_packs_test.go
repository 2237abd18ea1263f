package tests

import (
	"fmt"
	"slices"
	"strconv"
	"strings"
	"testing"

	"loop.example/g00652/impl"
)

// packOf is put together by hand, so that the tests do not lean on PackText.
func packOf(l []impl.Obj) string {
	var out strings.Builder
	for _, o := range l {
		fmt.Fprintf(&out, "%d\n%s", len(o.Text), o.Text)
	}
	return out.String()
}

// longTexts are n texts of 2000 bytes, all unlike.
func longTexts(n int) []string {
	var out []string
	for i := range n {
		out = append(out, fmt.Sprintf("%02d", i)+strings.Repeat("\n", 1998))
	}
	return out
}

func rightPacks() map[string][]impl.Obj {
	all := map[string][]impl.Obj{
		"no objects":               nil,
		"an empty list":            {},
		"one":                      objsOf("abc"),
		"the empty text":           objsOf(""),
		"the empty text among two": objsOf("", "abc"),
		"texts that look as packs": objsOf("3\nabc", "0\n", "3\nabc0\n", "10\n", "\n", "0", "1", "\n\n"),
		"bytes of all kinds":       objsOf("\x00\n\x1f\x7f\x80\xff", "\xff", "\x00", "\u00e4"),
		"a tree and commits":       graphOf(crossing(3)...).objs,
		"59":                       objsOf(texts(59)...),
		"60":                       objsOf(texts(60)...),
		"60 with the empty text":   objsOf(append(texts(59), "")...),
		"60 of 2000 bytes":         objsOf(longTexts(60)...),
		"a twin":                   objsOf(twinTrees[0]),
		"the other twin":           objsOf(twinTrees[1]),
	}
	for _, size := range []int{1, 9, 10, 11, 99, 100, 101, 999, 1000, 1001, 1999, 2000} {
		all[fmt.Sprint(size, " bytes")] = objsOf(strings.Repeat("7", size))
		all[fmt.Sprint(size, " bytes among others")] = objsOf("abc", strings.Repeat("\n", size), "", "z")
	}
	return all
}

// The answers are written down here.
func TestPackText(t *testing.T) {
	for _, c := range []struct {
		name string
		l    []impl.Obj
		want string
	}{
		{"no objects", nil, ""},
		{"one", objsOf("abc"), "3\nabc"},
		{"the empty text", objsOf(""), "0\n"},
		{"a byte 10", objsOf("\n"), "1\n\n"},
		{"ten bytes", objsOf("0123456789"), "10\n0123456789"},
		{"2000 bytes", objsOf(strings.Repeat("x", 2000)), "2000\n" + strings.Repeat("x", 2000)},
		// The ids of these begin with 5, b, c and e.
		{"four", objsOf("", "abc", "def", "0"), "1\n03\nabc3\ndef0\n"},
	} {
		if s := impl.PackText(c.l); s != c.want {
			t.Errorf("%s: PackText tells %.100q", c.name, s)
		}
		if l, ok := impl.ReadPack(c.want); !ok || !slices.Equal(l, c.l) {
			t.Errorf("%s: ReadPack tells %.100q, %v", c.name, l, ok)
		}
	}
}

func TestPackTextOfObjectsThatAreNotRight(t *testing.T) {
	for why, l := range notRightObjs() {
		if s := impl.PackText(l); s != "" {
			t.Errorf("%s: PackText tells %.100q", why, s)
		}
	}
}

func TestObjectsComeBackFromTheirPack(t *testing.T) {
	for name, l := range rightPacks() {
		s := impl.PackText(l)
		if s != packOf(l) {
			t.Errorf("%s: PackText tells %.100q", name, s)
		}
		if n, ok := impl.ReadPack(s); !ok || !slices.Equal(n, l) {
			t.Errorf("%s: ReadPack tells %.100q, %v", name, n, ok)
		}
	}
}

// unpacked is ReadPack as the document has it, by way of the library.
func unpacked(s string) ([]impl.Obj, bool) {
	var l []impl.Obj
	var texts []string
	for s != "" {
		head, rest, ended := strings.Cut(s, "\n")
		n, err := strconv.Atoi(head)
		if !ended || err != nil || strconv.Itoa(n) != head || n < 0 || n > 2000 || n > len(rest) {
			return nil, false
		}
		l = append(l, impl.Obj{Id: idOf(rest[:n]), Text: rest[:n]})
		texts = append(texts, rest[:n])
		s = rest[n:]
	}
	if len(l) > 60 || !slices.Equal(l, objsOf(texts...)) {
		return nil, false
	}
	return l, true
}

func checkReadPack(t *testing.T, s string) bool {
	t.Helper()
	want, right := unpacked(s)
	l, ok := impl.ReadPack(s)
	if ok != right || !slices.Equal(l, want) {
		t.Errorf("ReadPack of %.100q tells %.100q, %v", s, l, ok)
	}
	return ok
}

func TestReadPackRefusesOtherTexts(t *testing.T) {
	low, high := objsOf("abc", "def")[0].Text, objsOf("abc", "def")[1].Text
	two, three := "3\n"+low+"3\n"+high, objsOf(longTexts(3)...)
	for why, s := range map[string]string{
		"a nought ahead":                "03\nabc",
		"two noughts":                   "00\n",
		"a nought ahead, as it is long": "0000000003\nabc",
		"a nought ahead, at last":       "3\nabc01\nx",
		"no number":                     "\n",
		"no number, but a text":         "\nabc",
		"no number at last":             two + "\n",
		"letters":                       "x\n",
		"a letter behind":               "3x\nabc",
		"hexadecimal":                   "a\n0123456789",
		"with a plus":                   "+3\nabc",
		"with a minus":                  "-3\nabc",
		"minus nought":                  "-0\n",
		"a blank ahead":                 " 3\nabc",
		"a blank behind":                "3 \nabc",
		"a blank instead of byte 10":    "3 abc",
		"a byte 13":                     "3\r\nabc",
		"other digits":                  "\u0663\nabc",
		"a byte 10 ahead":               "\n3\nabc",
		"a point":                       "3.0\nabc",
		"the number alone":              "3",
		"nought alone":                  "0",
		"nine digits alone":             "123456789",
		"more than there is":            "3\nab",
		"more than there is by one":     "4\nabc",
		"more, and nothing there":       "1\n",
		"more at last":                  "3\n" + low + "4\n" + high,
		"less, and it goes on":          "2\nabc",
		"nought, and it goes on":        "0\nabc",
		"goes on by a byte":             two + "x",
		"goes on by a byte 0":           two + "\x00",
		"goes on by a blank":            two + " ",
		"goes on by a number":           two + "3",
		"goes on by a number's line":    two + "7\n",
		"the first one falls":           "3\n" + high + "3\n" + low,
		"the empty text, which is last": "0\n3\nabc",
		"one twice":                     "3\n" + low + "3\n" + low,
		"one twice at last":             two + "3\n" + high,
		"one again":                     two + "3\n" + low,
		"the empty text twice":          "0\n0\n",
		"long ones fall":                packOf([]impl.Obj{three[0], three[2], three[1]}),
		"2001 bytes":                    "2001\n" + strings.Repeat("x", 2001),
		"2001 bytes among others":       packOf(objsOf("abc", strings.Repeat("x", 2001), "")),
		"9999 bytes":                    "9999\n" + strings.Repeat("x", 9999),
		"1000000 bytes":                 "1000000\n" + strings.Repeat("x", 1000000),
		"more than 2000, and not there": "2001\nabc",
		"nine digits":                   "999999999\nabc",
		"ten digits":                    "1000000000\nabc",
		"2 to the 8 and 3":              "259\nabc",
		"2 to the 16 and 3":             "65539\nabc",
		"2 to the 32 and 3":             "4294967299\nabc",
		"2 to the 63":                   "9223372036854775808\nabc",
		"2 to the 64 and 3":             "18446744073709551619\nabc",
		"many digits":                   strings.Repeat("9", 100000) + "\nabc",
		"many noughts":                  strings.Repeat("0", 100000) + "\n",
		"61 texts":                      packOf(objsOf(texts(61)...)),
		"many texts":                    packOf(objsOf(texts(3000)...)),
		"many times the empty text":     strings.Repeat("0\n", 1000000),
	} {
		if l, ok := impl.ReadPack(s); ok || len(l) != 0 {
			t.Errorf("%s: ReadPack tells %.100q, %v", why, l, ok)
		}
		if checkReadPack(t, s) {
			t.Errorf("%s: it is a pack", why)
		}
	}
}

func TestReadPackOfAllShortTexts(t *testing.T) {
	accepted := 0
	level := []string{""}
	for range 8 {
		var next []string
		for _, s := range level {
			if checkReadPack(t, s) {
				accepted++
			}
			for _, c := range "012\na" {
				next = append(next, s+string(c))
			}
		}
		level = next
	}
	if accepted < 50 {
		t.Errorf("only %d are packs", accepted)
	}
}

// Packs of which one byte is another one, is gone, or is there in addition.
func TestReadPackOfTextsNearby(t *testing.T) {
	for _, l := range [][]impl.Obj{
		objsOf("abc"), objsOf(""), objsOf("", "abc", "def"), objsOf("0123456789", "x", "3\nabc"),
		objsOf(strings.Repeat("1\n", 60), "12", "1\n"), objsOf(treeA, commitText(idOf(treeA), "first")),
	} {
		s := packOf(l)
		for at := range len(s) + 1 {
			for _, c := range []string{"0", "1", "3", "9", "\n", "a", "+", "-", " ", "\x00", "\xff"} {
				checkReadPack(t, s[:at]+c+s[at:])
				if at < len(s) {
					checkReadPack(t, s[:at]+c+s[at+1:])
				}
			}
			checkReadPack(t, s[:at])
			checkReadPack(t, s[at:])
			if at < len(s) {
				checkReadPack(t, s[:at]+s[at+1:])
			}
		}
	}
}

// without are the objects of a list but those of another one.
func without(l, less []impl.Obj) []impl.Obj {
	var out []impl.Obj
	for _, o := range l {
		if !slices.Contains(less, o) {
			out = append(out, o)
		}
	}
	return out
}

func checkWanted(t *testing.T, name string, l []impl.Obj, id string, have []string, want []impl.Obj) {
	t.Helper()
	if n, ok := impl.Wanted(l, id, have); !ok || !slices.Equal(n, want) {
		t.Errorf("%s: Wanted tells %q, %v, not %q", name, n, ok, want)
	}
}

func TestWantedOfAllGraphs(t *testing.T) {
	for name, g := range graphs() {
		h := mappedGraph(ternary(len(g.parents), 7), g.parents...)
		for a, id := range h.ids {
			checkWanted(t, name, h.objs, id, nil, h.part(a))
			for b := a % 2; b < len(h.ids); b += 2 {
				what := fmt.Sprint(name, ": ", a, " without ", b)
				checkWanted(t, what, h.objs, id, h.ids[b:b+1], without(h.part(a), h.part(b)))
				c := (5*b + a) % len(h.ids)
				noise := []string{"x", h.ids[c], idOf("map\n" + h.maps[a]), h.ids[b], idLow, h.ids[c], ""}
				checkWanted(t, fmt.Sprint(what, " and ", c), h.objs, id, noise, without(h.part(a), h.part(b, c)))
			}
		}
	}
}

// The answers are written down here: the places of commits, and trees.
func TestWantedOfNamedCommits(t *testing.T) {
	one, two, three := "a=1\n", "b=2\n", "c=3\n"
	line, fork := [][]int{nil, {0}, {1}}, [][]int{nil, {0}, {0}}
	cross := [][]int{nil, {0}, {0}, {1, 2}, {1, 2}}
	apart := [][]int{nil, nil, {0, 1}}
	for _, c := range []struct {
		name    string
		maps    []string
		parents [][]int
		id      int
		have    []int
		commits []int
		trees   []string
	}{
		{"nothing had", []string{one, two, three}, line, 2, nil, []int{0, 1, 2}, []string{one, two, three}},
		{"the first had", []string{one, two, three}, line, 2, []int{0}, []int{1, 2}, []string{two, three}},
		{"the parent had", []string{one, two, three}, line, 2, []int{1}, []int{2}, []string{three}},
		{"itself had", []string{one, two, three}, line, 2, []int{2}, nil, nil},
		{"a child had", []string{one, two, three}, line, 0, []int{2}, nil, nil},
		{"two had, one behind the other", []string{one, two, three}, line, 2, []int{1, 0}, []int{2}, []string{three}},
		{"one had twice", []string{one, two, three}, line, 2, []int{0, 0}, []int{1, 2}, []string{two, three}},
		{"one of a fork had", []string{one, two, three}, fork, 1, []int{2}, []int{1}, []string{two}},
		{"one of a fork had that has the same tree", []string{one, two, two}, fork, 1, []int{2}, []int{1}, nil},
		{"another one had that has the same tree", []string{one, one}, [][]int{nil, nil}, 0, []int{1}, []int{0}, nil},
		{"one had with the tree of its parent", []string{one, two, one}, [][]int{nil, {0}, nil}, 1, []int{2}, []int{0, 1}, []string{two}},
		{"the tree is as the first one's, which is had", []string{one, two, one}, line, 2, []int{0}, []int{1, 2}, []string{two}},
		{"nothing in common had", []string{one, two}, [][]int{nil, nil}, 0, []int{1}, []int{0}, []string{one}},
		{"one of two parents had", []string{one, two, three}, apart, 2, []int{0}, []int{1, 2}, []string{two, three}},
		{"the other one had", []string{one, two, three}, apart, 2, []int{1}, []int{0, 2}, []string{one, three}},
		{"both parents had", []string{one, two, three}, apart, 2, []int{0, 1}, []int{2}, []string{three}},
		{"one of two that cross had", []string{"", one, two, three, "d=4\n"}, cross, 3, []int{4}, []int{3}, []string{three}},
		{"one ahead of them had", []string{"", one, two, three, "d=4\n"}, cross, 4, []int{1}, []int{2, 4}, []string{two, "d=4\n"}},
	} {
		g := mappedGraph(c.maps, c.parents...)
		have, want := g.idsAt(c.have), g.objsAt(c.commits, c.trees)
		checkWanted(t, c.name, g.objs, g.ids[c.id], have, want)
		slices.Reverse(have)
		checkWanted(t, c.name+", turned round", g.objs, g.ids[c.id], have, want)
	}
}

// A tree that is had does not count: it is no commit.
func TestWantedWithHaveOfNoCommit(t *testing.T) {
	g := mappedGraph([]string{"a=1\n", "b=2\n"}, nil, []int{0})
	none := append(noCommits(), idOf("map\nb=2\n"), idOf("map\na=1\n"), g.ids[0][:15], g.ids[0]+"0", strings.ToUpper(g.ids[0])+" ", strings.Repeat("x", 100000))
	for _, id := range none {
		checkWanted(t, fmt.Sprintf("%.20q had", id), g.objs, g.ids[1], []string{id}, g.objs)
	}
	checkWanted(t, "all of these had", g.objs, g.ids[1], none, g.objs)
	checkWanted(t, "and the first one", g.objs, g.ids[1], append(none, g.ids[0]), without(g.objs, g.part(0)))
	checkWanted(t, "the first one ahead of them", g.objs, g.ids[1], append([]string{g.ids[0]}, none...), without(g.objs, g.part(0)))
	long := slices.Repeat([]string{g.ids[0], "x", idLow}, 20000)
	checkWanted(t, "60000 had", g.objs, g.ids[1], long, without(g.objs, g.part(0)))
	checkWanted(t, "60000 of none had", g.objs, g.ids[1], slices.Repeat([]string{idLow}, 60000), g.objs)
}

func TestWantedOfSixtyObjects(t *testing.T) {
	for _, two := range []bool{false, true} {
		g := graphOf(chain(59, two)...)
		checkWanted(t, "nothing had", g.objs, g.ids[58], nil, g.objs)
		checkWanted(t, "one between had", g.objs, g.ids[58], g.ids[30:31], without(g.objs, g.part(30)))
		checkWanted(t, "all but the last had", g.objs, g.ids[58], g.ids[:58], without(g.objs, g.part(57)))
		more := graphOf(chain(60, two)...)
		checkNotWanted(t, "61 objects", more.objs, more.ids[3])
	}
}

func checkNotWanted(t *testing.T, name string, l []impl.Obj, id string) {
	t.Helper()
	for _, have := range [][]string{nil, {id}, {idLow}, objIds(l)} {
		if n, ok := impl.Wanted(l, id, have); ok || len(n) != 0 {
			t.Errorf("%s: Wanted of %q tells %q, %v", name, id, n, ok)
		}
	}
}

// wrongRepos are objects that are no repository, each with the commit of treeA
// and the note first among them where that can be.
func wrongRepos() map[string][]impl.Obj {
	all := map[string][]impl.Obj{}
	for why, list := range notRightRepos() {
		all[why] = objsOf(list...)
	}
	for why, l := range notRightTreesAndCommits() {
		all["not right, "+why] = l
	}
	for why, l := range notRightObjs() {
		all["not right, without a commit, "+why] = l
	}
	return all
}

func TestWantedRefuses(t *testing.T) {
	first := idOf(commitText(idOf(treeA), "first"))
	for why, l := range wrongRepos() {
		checkNotWanted(t, why, l, first)
		checkNotWanted(t, why, l, idOf(treeA))
		checkNotWanted(t, why, l, idOf("abc"))
	}
	g := mappedGraph([]string{"a=1\n", "b=2\n"}, nil, []int{0})
	for _, id := range append(noCommits(), idOf("map\nb=2\n"), g.ids[1]+"0", g.ids[1][:15], "abc") {
		checkNotWanted(t, "no commit", g.objs, id)
		checkNotWanted(t, "no objects", nil, id)
	}
	for _, id := range g.ids {
		checkNotWanted(t, "no objects", nil, id)
	}
}

// textsIn are the texts of all these objects.
func textsIn(lists ...[]impl.Obj) []string {
	var out []string
	for _, o := range slices.Concat(lists...) {
		out = append(out, o.Text)
	}
	return out
}

// checkFetched asks, beside the answer, for what is promised of it.
func checkFetched(t *testing.T, name string, l, from []impl.Obj, id string, want []impl.Obj) {
	t.Helper()
	n, ok := impl.Fetched(l, from, id)
	if !ok || !slices.Equal(n, want) {
		t.Errorf("%s: Fetched tells %q, %v, not %q", name, n, ok, want)
	}
	if !impl.RepoOk(n) || !slices.Equal(impl.LogOf(n, id), impl.LogOf(from, id)) || !impl.IsAncestor(n, id, id) {
		t.Errorf("%s: behind Fetched the commit is not there, with all that is behind it", name)
	}
	for _, each := range impl.Ancestors(from, id) {
		m, ok := impl.MapAt(n, each)
		if was, _ := impl.MapAt(from, each); !ok || !slices.Equal(m, was) {
			t.Errorf("%s: behind Fetched the map of %s is %q, %v, not %q", name, each, m, ok, was)
		}
	}
}

func checkNotFetched(t *testing.T, name string, l, from []impl.Obj, id string) {
	t.Helper()
	if n, ok := impl.Fetched(l, from, id); ok || len(n) != 0 {
		t.Errorf("%s: Fetched of %q tells %q, %v", name, id, n, ok)
	}
}

func TestFetchedOfAllGraphs(t *testing.T) {
	for name, g := range graphs() {
		h := mappedGraph(ternary(len(g.parents), 8), g.parents...)
		for a, id := range h.ids {
			checkFetched(t, fmt.Sprint(name, ": ", a, " into none"), nil, h.objs, id, h.part(a))
			for _, b := range []int{a / 2, (3*a + 1) % len(h.ids)} {
				// The other side need not have what is here.
				c := (5*b + 2) % len(h.ids)
				what := fmt.Sprint(name, ": ", a, " into ", b)
				checkFetched(t, what, h.part(b), h.objs, id, h.part(a, b))
				checkFetched(t, what+" and more", h.part(b, c), h.part(a), id, h.part(a, b, c))
			}
		}
	}
}

// The answers are written down here: what comes of it, by places.
func TestFetchedOfNamedCommits(t *testing.T) {
	g := mappedGraph([]string{"", "a=1\n", "b=2\n", "c=3\n", "a=1\n", "a=1\n"}, nil, []int{0}, []int{0}, []int{1, 2}, nil, []int{1})
	for _, c := range []struct {
		name    string
		l, from []int
		id      int
		want    []int
	}{
		{"into no objects", nil, []int{3}, 3, []int{0, 1, 2, 3}},
		{"the first into no objects", nil, []int{3}, 0, []int{0}},
		{"what is there already", []int{3}, []int{3}, 3, []int{0, 1, 2, 3}},
		{"what is behind one that is there", []int{3}, []int{3}, 1, []int{0, 1, 2, 3}},
		{"what is there already, from one who has less", []int{3, 4}, []int{1}, 1, []int{0, 1, 2, 3, 4}},
		{"a child", []int{0}, []int{3, 4}, 1, []int{0, 1}},
		{"a merger, one parent there", []int{2}, []int{3}, 3, []int{0, 1, 2, 3}},
		{"another one of the fork", []int{1}, []int{2}, 2, []int{0, 1, 2}},
		{"nothing in common", []int{3}, []int{4}, 4, []int{0, 1, 2, 3, 4}},
		{"nothing in common, turned round", []int{4}, []int{3}, 3, []int{0, 1, 2, 3, 4}},
		{"one of the same tree", []int{4}, []int{1, 4}, 1, []int{0, 1, 4}},
		{"one of its parent's tree", []int{1}, []int{5}, 5, []int{0, 1, 5}},
	} {
		want := []string{}
		for _, at := range c.want {
			want = append(want, g.texts[2*at], g.texts[2*at+1])
		}
		checkFetched(t, c.name, g.part(c.l...), g.part(c.from...), g.ids[c.id], objsOf(want...))
	}
	// Trees that no commit has stay here, and do not come from there.
	loose := objsOf(append(textsIn(g.part(0)), "map\na=1\n", "map\nx=1\n")...)
	there := objsOf(append(textsIn(g.part(1)), "map\ny=1\n")...)
	checkFetched(t, "trees alone", loose, there, g.ids[1], objsOf(append(textsIn(g.part(1)), "map\nx=1\n")...))
	checkFetched(t, "a tree alone", objsOf("map\na=1\n"), there, g.ids[1], g.part(1))
	checkFetched(t, "from itself", there, there, g.ids[1], there)
}

// 29 commits of one tree are 30 objects.
func TestFetchedAtSixtyObjects(t *testing.T) {
	g := graphOf(chain(29, true)...)
	last := g.ids[28]
	fetched := func(name string, here []string, want int) {
		t.Helper()
		if want > 60 {
			checkNotFetched(t, name, objsOf(here...), g.objs, last)
			return
		}
		all := objsOf(append(here, g.texts...)...)
		if len(all) != want {
			t.Errorf("%s: there are %d objects", name, len(all))
		}
		checkFetched(t, name, objsOf(here...), g.objs, last, all)
	}
	fetched("29 and 30", trees(29), 59)
	fetched("30 and 30", trees(30), 60)
	fetched("31 and 30", trees(31), 61)
	fetched("60 and 30", trees(60), 90)
	fetched("31 and 30, the tree there", append(trees(30), treeA), 60)
	fetched("32 and 30, the tree there", append(trees(31), treeA), 61)
	fetched("60 and 30, all there", append(trees(30), g.texts...), 60)
	fetched("59, all but the last there", append(trees(30), textsIn(g.part(27))...), 60)
	fetched("60, all but the last there", append(trees(31), textsIn(g.part(27))...), 61)
	whole := graphOf(chain(59, true)...)
	checkFetched(t, "60 into none", nil, whole.objs, whole.ids[58], whole.objs)
	checkFetched(t, "60 into themselves", whole.objs, whole.objs, whole.ids[58], whole.objs)
	wide := append(trees(58), treeA)
	checkFetched(t, "the first of 60 into 59", objsOf(wide...), whole.objs, whole.ids[0], objsOf(append(wide, whole.texts[1])...))
	more := graphOf(chain(60, true)...)
	checkNotFetched(t, "61 into none", nil, more.objs, more.ids[59])
	checkNotFetched(t, "one of 61 into none", nil, more.objs, more.ids[0])
	checkNotFetched(t, "one that is there into 61", more.objs, g.objs, g.ids[0])
}

func TestTwoFetchesInEitherOrder(t *testing.T) {
	for name, g := range graphs() {
		h := mappedGraph(ternary(len(g.parents), 9), g.parents...)
		for a := range h.ids {
			b := (7*a + 3) % len(h.ids)
			for _, start := range [][]impl.Obj{nil, h.part((a + b) / 2), objsOf("map\n", "map\nz=1\n")} {
				one, _ := impl.Fetched(start, h.part(a), h.ids[a])
				one, ok := impl.Fetched(one, h.part(b), h.ids[b])
				other, _ := impl.Fetched(start, h.objs, h.ids[b])
				other, fine := impl.Fetched(other, h.objs, h.ids[a])
				want := objsOf(textsIn(start, h.part(a, b))...)
				if !ok || !fine || !slices.Equal(one, want) || !slices.Equal(other, want) {
					t.Errorf("%s: %d and %d make %q, %v, or %q, %v", name, a, b, one, ok, other, fine)
				}
			}
		}
	}
}

func TestFetchedRefuses(t *testing.T) {
	g := mappedGraph([]string{"a=1\n", "b=2\n", "c=3\n"}, nil, []int{0}, nil)
	first := idOf(commitText(idOf(treeA), "first"))
	right := objsOf(treeA, commitText(idOf(treeA), "first"))
	for why, l := range wrongRepos() {
		checkNotFetched(t, why+" here", l, right, first)
		checkNotFetched(t, why+" here", l, g.objs, g.ids[1])
		checkNotFetched(t, why+" there", nil, l, first)
		checkNotFetched(t, why+" there", right, l, first)
		checkNotFetched(t, why+" there", g.objs, l, first)
		checkNotFetched(t, why+" on both sides", l, l, first)
	}
	for _, id := range append(noCommits(), idOf("map\nb=2\n"), g.ids[1]+"0", g.ids[1][:15]) {
		checkNotFetched(t, "no commit", nil, g.objs, id)
		checkNotFetched(t, "no commit", g.objs, g.objs, id)
		checkNotFetched(t, "no commit of nothing", g.objs, nil, id)
	}
	// It has to be a commit there, though it is one here.
	checkNotFetched(t, "a commit here alone", g.objs, g.part(0), g.ids[1])
	checkNotFetched(t, "a commit here alone", g.objs, nil, g.ids[1])
	checkNotFetched(t, "a commit here alone", g.objs, g.part(2), g.ids[0])
	// What is missing here is not made good by what is there.
	for i, o := range g.part(1) {
		if o.Id != g.ids[1] {
			less := slices.Delete(g.part(1), i, i+1)
			checkNotFetched(t, "one is gone here", less, g.objs, g.ids[1])
			checkNotFetched(t, "one is gone there", g.objs, less, g.ids[1])
			checkNotFetched(t, "one is gone there", nil, less, g.ids[0])
		}
	}
}

// Of two texts of one id just one can be there.
func TestFetchedOfTwins(t *testing.T) {
	first := commitText(idOf(treeA), "first")
	commit := func(tree, note string) string { return commitText(idOf(tree), note) }
	for _, twins := range [][2]string{twinTrees, {twinTrees[1], twinTrees[0]}} {
		here, there := objsOf(twins[0], commit(twins[0], "here")), objsOf(twins[1], commit(twins[1], "there"))
		checkNotFetched(t, "two trees", here, there, idOf(commit(twins[1], "there")))
		checkFetched(t, "one tree", here, objsOf(twins[0], commit(twins[0], "there")), idOf(commit(twins[0], "there")), objsOf(append(textsIn(here), commit(twins[0], "there"))...))
	}
	tree, twin := twinTreeCommit[0], twinTreeCommit[1]
	checkNotFetched(t, "a tree here", objsOf(tree), objsOf(treeA, twin), idOf(twin))
	// The commit here is none there, so that the tree is wanted.
	checkNotFetched(t, "a commit here", objsOf(treeA, twin), objsOf(tree, commit(tree, "there")), idOf(commit(tree, "there")))
	// Their commit is had, so that its parent is not wanted; here it has none.
	here := objsOf(treeA, twinCommits[0])
	child := commitText(idOf(treeA), "child", idOf(twinCommits[1]))
	both := commitText(idOf(treeA), "both", parents(first, twinCommits[1])...)
	there := objsOf(treeA, first, twinCommits[1], child, both)
	checkNotFetched(t, "a parent is missing", here, there, idOf(both))
	want := objsOf(treeA, twinCommits[0], child)
	if n, ok := impl.Fetched(here, there, idOf(child)); !ok || !slices.Equal(n, want) {
		t.Errorf("no parent is missing: Fetched tells %q, %v", n, ok)
	}
	all := objsOf(treeA, first, twinCommits[0], both)
	if n, ok := impl.Fetched(objsOf(treeA, first, twinCommits[0]), there, idOf(both)); !ok || !slices.Equal(n, all) {
		t.Errorf("the parent is there: Fetched tells %q, %v", n, ok)
	}
}

func TestPackCallsLeaveTheirArguments(t *testing.T) {
	g := mappedGraph(ternary(7, 4), crossing(3)...)
	for _, objs := range [][]impl.Obj{nil, g.objs, g.objs[1:], g.part(3), graphOf(chain(59, true)...).objs, objsOf("abc", "def")} {
		for _, ids := range [][]string{nil, g.ids, g.ids[4:5], {"x", g.ids[2], idLow, g.ids[1]}} {
			l, from, have := newRoomy(objs, spareObj), newRoomy(g.objs, spareObj), newRoomy(ids, "spare")
			n, _ := impl.ReadPack(impl.PackText(l.list()))
			spoil(n, spareObj)
			for _, id := range append(slices.Clone(g.ids), idLow) {
				n, _ = impl.Wanted(l.list(), id, have.list())
				spoil(n, spareObj)
				n, _ = impl.Fetched(l.list(), from.list(), id)
				spoil(n, spareObj)
				n, _ = impl.Fetched(from.list(), l.list(), id)
				spoil(n, spareObj)
				n, _ = impl.Fetched(l.list(), l.list(), id)
				spoil(n, spareObj)
			}
			l.check(t, "a call of packs")
			from.check(t, "Fetched")
			have.check(t, "Wanted")
		}
	}
}

func TestPackCallsAnswerTheSameAgain(t *testing.T) {
	g := mappedGraph(ternary(9, 6), crossing(4)...)
	pack := packOf(g.objs)
	for range 20 {
		if s := impl.PackText(g.objs); s != pack {
			t.Errorf("PackText tells %q", s)
		}
		n, ok := impl.ReadPack(pack)
		if !ok || !slices.Equal(n, g.objs) {
			t.Errorf("ReadPack tells %q, %v", n, ok)
		}
		spoil(n, spareObj)
		checkWanted(t, "again", g.objs, g.ids[8], g.ids[3:4], without(g.part(8), g.part(3)))
		n, _ = impl.Wanted(g.objs, g.ids[8], g.ids[3:4])
		spoil(n, spareObj)
		checkFetched(t, "again", g.part(3), g.objs, g.ids[8], g.part(3, 8))
		n, _ = impl.Fetched(g.part(3), g.objs, g.ids[8])
		spoil(n, spareObj)
	}
}

func TestPackCallsLeaveNoGoroutines(t *testing.T) {
	g := graphOf(chain(20, true)...)
	for name, have := range map[string][]string{
		"nothing had": nil, "all had": g.ids, "none of these had": {"x", idLow}, "itself had": {g.ids[19], g.ids[0], "x"},
	} {
		checkGoroutines(t, name, func() {
			impl.Wanted(g.objs, g.ids[19], have)
			impl.Wanted(g.objs, idLow, have)
			impl.Fetched(g.part(7), g.objs, g.ids[19])
			impl.Fetched(g.part(7), g.objs, idLow)
		})
	}
}

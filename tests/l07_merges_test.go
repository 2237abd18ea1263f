package tests

import (
	"fmt"
	"maps"
	"math"
	"slices"
	"strings"
	"testing"

	"loop.example/g00652/impl"
)

// mergedFrom is a merger as the document has it, by way of Go maps; with nil
// for side what clashes is as in base.
func mergedFrom(base, a, b, side []impl.Pair) ([]impl.Pair, []string) {
	was, ofA, ofB := valsOf(base), valsOf(a), valsOf(b)
	settled := was
	if side != nil {
		settled = valsOf(side)
	}
	keys := maps.Clone(was)
	maps.Copy(keys, ofA)
	maps.Copy(keys, ofB)
	out := map[string]string{}
	var told []string
	for key := range keys {
		alike := func(x, y map[string]string) bool { return has(x, key) == has(y, key) && x[key] == y[key] }
		from := settled
		switch {
		case alike(ofA, was):
			from = ofB
		case alike(ofB, was), alike(ofA, ofB):
			from = ofA
		default:
			told = append(told, key)
		}
		if has(from, key) {
			out[key] = from[key]
		}
	}
	slices.Sort(told)
	return pairsOf(out), told
}

// side is never nil, so that a map of no pairs can be told from none.
func side(m []impl.Pair) []impl.Pair { return append([]impl.Pair{}, m...) }

func checkMerger(t *testing.T, name string, base, a, b []impl.Pair) {
	t.Helper()
	want, told := mergedFrom(base, a, b, nil)
	right := len(want) <= 40
	if !right {
		want, told = nil, nil
	}
	for _, pair := range [][2][]impl.Pair{{a, b}, {b, a}} {
		m, keys, ok := impl.Merged(base, pair[0], pair[1])
		if ok != right || !slices.Equal(m, want) || !slices.Equal(keys, told) {
			t.Errorf("%s: Merged tells %q, %q, %v, not %q, %q", name, m, keys, ok, want, told)
		}
	}
	for _, c := range []struct {
		first, second, from []impl.Pair
		side                int64
	}{{a, b, a, 1}, {a, b, b, 2}, {b, a, b, 1}, {b, a, a, 2}} {
		want, _ := mergedFrom(base, a, b, side(c.from))
		fits := right && len(want) <= 40
		if !fits {
			want = nil
		}
		if m, ok := impl.Resolved(base, c.first, c.second, c.side); ok != fits || !slices.Equal(m, want) {
			t.Errorf("%s: Resolved to %d tells %q, %v, not %q", name, c.side, m, ok, want)
		}
	}
}

func pairs(t *testing.T, text string) []impl.Pair {
	t.Helper()
	m, ok := impl.ReadMap(text)
	if !ok {
		t.Fatalf("%q is no map's text", text)
	}
	return m
}

func TestSides(t *testing.T) {
	if impl.SideA != 1 || impl.SideB != 2 {
		t.Errorf("SideA is %d, SideB %d", impl.SideA, impl.SideB)
	}
}

// The answers are written down here, of each way in which one key can stand.
func TestMergedOfOneKey(t *testing.T) {
	for _, c := range []struct {
		name, base, a, b string
		want, told       string
		ofA, ofB         string
	}{
		{"nowhere", "", "", "", "", "", "", ""},
		{"alike everywhere", "k=1\n", "k=1\n", "k=1\n", "k=1\n", "", "k=1\n", "k=1\n"},
		{"one changes it", "k=1\n", "k=2\n", "k=1\n", "k=2\n", "", "k=2\n", "k=2\n"},
		{"one drops it", "k=1\n", "", "k=1\n", "", "", "", ""},
		{"one puts it in", "", "k=1\n", "", "k=1\n", "", "k=1\n", "k=1\n"},
		{"one puts it in, empty", "", "k=\n", "", "k=\n", "", "k=\n", "k=\n"},
		{"one empties it", "k=1\n", "k=\n", "k=1\n", "k=\n", "", "k=\n", "k=\n"},
		{"one drops an empty one", "k=\n", "", "k=\n", "", "", "", ""},
		{"both drop it", "k=1\n", "", "", "", "", "", ""},
		{"both put it in alike", "", "k=1\n", "k=1\n", "k=1\n", "", "k=1\n", "k=1\n"},
		{"both change it alike", "k=1\n", "k=2\n", "k=2\n", "k=2\n", "", "k=2\n", "k=2\n"},
		{"both put it in unlike", "", "k=1\n", "k=2\n", "", "k", "k=1\n", "k=2\n"},
		{"both put it in, one empty", "", "k=\n", "k=2\n", "", "k", "k=\n", "k=2\n"},
		{"both change it unlike", "k=1\n", "k=2\n", "k=3\n", "k=1\n", "k", "k=2\n", "k=3\n"},
		{"one drops it, one changes it", "k=1\n", "", "k=2\n", "k=1\n", "k", "", "k=2\n"},
		{"one drops it, one empties it", "k=1\n", "", "k=\n", "k=1\n", "k", "", "k=\n"},
		{"one drops an empty one, one changes it", "k=\n", "", "k=1\n", "k=\n", "k", "", "k=1\n"},
	} {
		base, a, b := pairs(t, c.base), pairs(t, c.a), pairs(t, c.b)
		told := strings.Fields(c.told)
		for _, pair := range [][2][]impl.Pair{{a, b}, {b, a}} {
			m, keys, ok := impl.Merged(base, pair[0], pair[1])
			if !ok || !slices.Equal(m, pairs(t, c.want)) || !slices.Equal(keys, told) {
				t.Errorf("%s: Merged tells %q, %q, %v", c.name, m, keys, ok)
			}
		}
		if m, ok := impl.Resolved(base, a, b, impl.SideA); !ok || !slices.Equal(m, pairs(t, c.ofA)) {
			t.Errorf("%s: Resolved to SideA tells %q, %v", c.name, m, ok)
		}
		if m, ok := impl.Resolved(base, a, b, impl.SideB); !ok || !slices.Equal(m, pairs(t, c.ofB)) {
			t.Errorf("%s: Resolved to SideB tells %q, %v", c.name, m, ok)
		}
		checkMerger(t, c.name, base, a, b)
	}
}

func TestMergedTellsKeysThatRise(t *testing.T) {
	base := pairs(t, "b=1\nc=1\nd=1\ne=1\n")
	a := pairs(t, "a=1\nb=2\nc=2\nd=1\nf=1\n")
	b := pairs(t, "a=2\nb=3\nc=1\nd=4\ne=2\ng=1\n")
	m, keys, ok := impl.Merged(base, a, b)
	if !ok || impl.MapText(m) != "b=1\nc=2\nd=4\ne=1\nf=1\ng=1\n" || !slices.Equal(keys, []string{"a", "b", "e"}) {
		t.Errorf("Merged tells %q, %q, %v", m, keys, ok)
	}
	if m, ok := impl.Resolved(base, a, b, impl.SideA); !ok || impl.MapText(m) != "a=1\nb=2\nc=2\nd=4\nf=1\ng=1\n" {
		t.Errorf("Resolved to SideA tells %q, %v", m, ok)
	}
	if m, ok := impl.Resolved(base, a, b, impl.SideB); !ok || impl.MapText(m) != "a=2\nb=3\nc=2\nd=4\ne=2\nf=1\ng=1\n" {
		t.Errorf("Resolved to SideB tells %q, %v", m, ok)
	}
}

// All maps of two keys and a few values.
func TestMergedOfAllSmallMaps(t *testing.T) {
	var small [][]impl.Pair
	for _, x := range []string{"", "k=\n", "k=1\n", "k=2\n"} {
		for _, y := range []string{"", "l=\n", "l=1\n"} {
			small = append(small, pairs(t, x+y))
		}
	}
	for _, base := range small {
		for _, a := range small {
			for _, b := range small {
				checkMerger(t, fmt.Sprint(base, a, b), base, a, b)
			}
		}
	}
}

func TestMergedOfManyMaps(t *testing.T) {
	all := rightMaps()
	for i, base := range all {
		for j, a := range all {
			for k := j; k < len(all); k += 7 {
				checkMerger(t, fmt.Sprint("maps ", i, j, k), base, a, all[k])
			}
		}
	}
}

// What is promised, asked of the answers alone.
func TestMergersKeepTheirPromise(t *testing.T) {
	all := rightMaps()
	for i, base := range all {
		for j, a := range all {
			b := all[(2*i+3*j)%len(all)]
			m, keys, ok := impl.Merged(base, a, b)
			if !ok {
				continue
			}
			for _, p := range slices.Concat(base, a, b, m) {
				checkKeptKey(t, p.Key, base, a, b, m, keys)
			}
		}
	}
}

// checkKeptKey asks that a key is as in one of both when the other has it as it was.
func checkKeptKey(t *testing.T, key string, base, a, b, m []impl.Pair, keys []string) {
	t.Helper()
	got := func(m []impl.Pair) string {
		val, there := impl.Get(m, key)
		return fmt.Sprint(val, there)
	}
	if got(a) == got(base) && got(m) != got(b) || got(b) == got(base) && got(m) != got(a) {
		t.Errorf("%s is %s in base, %s and %s in both, %s in their merger", key, got(base), got(a), got(b), got(m))
	}
	clashes := got(a) != got(base) && got(b) != got(base) && got(a) != got(b)
	if slices.Contains(keys, key) != clashes {
		t.Errorf("%s is %s in base, %s and %s in both; it is told: %v", key, got(base), got(a), got(b), !clashes)
	}
}

func TestMergedOfMapsThatAreAlike(t *testing.T) {
	for i, m := range rightMaps() {
		for j, other := range rightMaps() {
			for name, c := range map[string]struct{ base, a, b, want []impl.Pair }{
				"all alike":           {m, m, m, m},
				"both alike":          {other, m, m, m},
				"the first as base":   {m, m, other, other},
				"the second as base":  {m, other, m, other},
				"no pairs everywhere": {nil, nil, []impl.Pair{}, nil},
			} {
				n, keys, ok := impl.Merged(c.base, c.a, c.b)
				if !ok || len(keys) != 0 || !slices.Equal(n, c.want) {
					t.Errorf("%s, maps %d, %d: Merged tells %q, %q, %v", name, i, j, n, keys, ok)
				}
			}
		}
	}
}

func TestMergedAtFortyPairs(t *testing.T) {
	forty := numbered(40)
	turned := slices.Clone(forty)
	for i := range turned {
		turned[i].Val = "turned"
	}
	one := []impl.Pair{{Key: "z", Val: "1"}}
	z := func(m []impl.Pair, val string) []impl.Pair {
		return append(slices.Clone(m), impl.Pair{Key: "z", Val: val})
	}
	for _, c := range []struct {
		name       string
		base, a, b []impl.Pair
		size       int
		told       []string
		sizeA      int
		sizeB      int
	}{
		{"20 and 20 others", nil, lettered(20, "a"), lettered(20, "b"), 40, nil, 40, 40},
		{"20 and 21 others", nil, lettered(20, "a"), lettered(21, "b"), -1, nil, -1, -1},
		{"40 and none", nil, forty, nil, 40, nil, 40, 40},
		{"40 and 1", nil, forty, one, -1, nil, -1, -1},
		{"40 and 40 others", nil, forty, lettered(40, "a"), -1, nil, -1, -1},
		{"39 and 1", nil, forty[1:], one, 40, nil, 40, 40},
		{"one of 40 dropped, one put in", forty, forty[1:], z(forty[:39], "1"), 39, nil, 39, 39},
		{"40, one put in for another", forty, z(forty[1:], "1"), forty, 40, nil, 40, 40},
		{"one put in by each, one dropped by each", forty, z(forty[1:], "1"), append([]impl.Pair{{Key: "a"}}, forty[:39]...), 40, nil, 40, 40},
		{"one put in by each, the same dropped", forty, z(forty[1:], "1"), append([]impl.Pair{{Key: "a"}}, forty[1:]...), -1, nil, -1, -1},
		{"40 for 40", forty, lettered(40, "a"), forty, 40, nil, 40, 40},
		{"all 40 dropped", forty, nil, forty, 0, nil, 0, 0},
		{"a clash at 39", forty[1:], z(forty[1:], "1"), z(forty[1:], "2"), 39, []string{"z"}, 40, 40},
		// What clashes is not in base: there are 40 without it, 41 with one of both.
		{"a clash at 40", forty[1:38], z(forty[1:39], "1"), append([]impl.Pair{{Key: "a"}, {Key: "b"}}, z(forty[1:38], "2")...), 40, []string{"z"}, -1, -1},
		// What clashes is in base: one of both would drop it, but Merged is false.
		{"41 with what clashes", forty, z(forty[1:], "1"), append(slices.Clone(turned[:1]), forty[1:]...), -1, nil, -1, -1},
		{"40 with what clashes", forty[:39], z(forty[1:39], "1"), append(slices.Clone(turned[:1]), forty[1:39]...), 40, []string{"k00"}, 39, 40},
		{"40 clash", nil, forty, turned, 0, keys(forty), 40, 40},
		{"40 clash, all dropped by one", forty, nil, turned, 40, keys(forty), 0, 40},
		{"60 clash", forty, append(slices.Clone(turned[:20]), lettered(20, "z")...), append(slices.Clone(turned[20:]), emptied(lettered(20, "z"))...), 40, append(keys(forty), keys(lettered(20, "z"))...), 40, 40},
	} {
		m, told, ok := impl.Merged(c.base, c.a, c.b)
		if ok != (c.size >= 0) || len(m) != max(c.size, 0) || !slices.Equal(told, c.told) {
			t.Errorf("%s: Merged tells %q, %q, %v", c.name, m, told, ok)
		}
		if m, ok := impl.Resolved(c.base, c.a, c.b, impl.SideA); ok != (c.sizeA >= 0) || len(m) != max(c.sizeA, 0) {
			t.Errorf("%s: Resolved to SideA tells %q, %v", c.name, m, ok)
		}
		if m, ok := impl.Resolved(c.base, c.a, c.b, impl.SideB); ok != (c.sizeB >= 0) || len(m) != max(c.sizeB, 0) {
			t.Errorf("%s: Resolved to SideB tells %q, %v", c.name, m, ok)
		}
		checkMerger(t, c.name, c.base, c.a, c.b)
	}
}

func keys(m []impl.Pair) []string {
	var out []string
	for _, p := range m {
		out = append(out, p.Key)
	}
	return out
}

func emptied(m []impl.Pair) []impl.Pair {
	out := slices.Clone(m)
	for i := range out {
		out[i].Val = ""
	}
	return out
}

// In each place, and in more than one at once: what both have alike, or one as
// base, would not be in the merger, or would be right there.
func TestMergedAndResolvedRefuseMapsThatAreNotRight(t *testing.T) {
	for name, bad := range notRightMaps() {
		for _, right := range [][]impl.Pair{nil, {{Key: "a", Val: "1"}}, {{Key: "c", Val: "1"}}, numbered(40)} {
			for places := 1; places < 8; places++ {
				all := [3][]impl.Pair{right, right, right}
				for i := range all {
					if places>>i&1 != 0 {
						all[i] = bad
					}
				}
				if m, told, ok := impl.Merged(all[0], all[1], all[2]); ok || len(m) != 0 || len(told) != 0 {
					t.Errorf("%s at %03b: Merged tells %q, %q, %v", name, places, m, told, ok)
				}
				for _, side := range []int64{0, 1, 2, 3} {
					if m, ok := impl.Resolved(all[0], all[1], all[2], side); ok || len(m) != 0 {
						t.Errorf("%s at %03b: Resolved to %d tells %q, %v", name, places, side, m, ok)
					}
				}
			}
		}
	}
}

func TestResolvedRefusesOtherSides(t *testing.T) {
	for _, side := range []int64{0, 3, 4, -1, -2, 257, 258, 1 << 32, 1<<32 + 1, 1<<32 + 2, math.MaxInt64, math.MinInt64} {
		for _, c := range [][3]string{{"", "", ""}, {"k=1\n", "k=1\n", "k=2\n"}, {"k=1\n", "k=2\n", "k=3\n"}} {
			if m, ok := impl.Resolved(pairs(t, c[0]), pairs(t, c[1]), pairs(t, c[2]), side); ok || len(m) != 0 {
				t.Errorf("%q: Resolved to %d tells %q, %v", c, side, m, ok)
			}
		}
	}
}

func TestMergedAndResolvedLeaveTheirArguments(t *testing.T) {
	all := append(rightMaps()[:14], numbered(41), []impl.Pair{{Key: "b"}, {Key: "a"}})
	for _, first := range all {
		for _, second := range all {
			for _, third := range all {
				base, a, b := newRoomy(first, sparePair), newRoomy(second, sparePair), newRoomy(third, sparePair)
				m, told, _ := impl.Merged(base.list(), a.list(), b.list())
				was := slices.Clone(told)
				spoil(m, sparePair)
				if !slices.Equal(told, was) {
					t.Errorf("Merged tells lists that share memory: %q", told)
				}
				spoil(told, "spoilt")
				for _, side := range []int64{0, 1, 2} {
					m, _ := impl.Resolved(base.list(), a.list(), b.list(), side)
					spoil(m, sparePair)
				}
				base.check(t, "a call of mergers")
				a.check(t, "a call of mergers")
				b.check(t, "a call of mergers")
			}
		}
	}
}

// Base, a and b may be one list: what is told is another one.
func TestMergersOfOneListAreNewMemory(t *testing.T) {
	one := newRoomy(numbered(5), sparePair)
	m, _, _ := impl.Merged(one.list(), one.list(), one.list())
	spoil(m, sparePair)
	m, _ = impl.Resolved(one.list(), one.list(), one.list(), impl.SideB)
	spoil(m, sparePair)
	one.check(t, "a call of mergers")
}

// mergeOf is MergeCommit as the document has it, of commits by their places.
func (g graph) mergeOf(t *testing.T, a, b int, note string) ([]impl.Obj, string, []string, bool) {
	t.Helper()
	behind := g.behind()
	switch {
	case behind[a][b]:
		return g.objs, g.ids[a], nil, true
	case behind[b][a]:
		return g.objs, g.ids[b], nil, true
	}
	m, told := g.mergerAt(t, behind, a, b)
	if len(told) > 0 {
		return nil, "", told, false
	}
	tree := treeOf(m)
	text := commitText(idOf(tree), note, g.rising([]int{a, b})...)
	return objsOf(append(slices.Clone(g.texts), tree, text)...), idOf(text), nil, true
}

// mergerAt is the merger of the maps of two commits, and the keys that clash.
func (g graph) mergerAt(t *testing.T, behind [][]bool, a, b int) ([]impl.Pair, []string) {
	t.Helper()
	var base []impl.Pair
	if ids := g.bases(behind, a, b); len(ids) > 0 {
		base = pairs(t, g.maps[slices.Index(g.ids, ids[0])])
	}
	return mergedFrom(base, pairs(t, g.maps[a]), pairs(t, g.maps[b]), nil)
}

// treeOf is put together by hand, so that the tests do not lean on MapText.
func treeOf(m []impl.Pair) string {
	text := "map\n"
	for _, p := range m {
		text += p.Key + "=" + p.Val + "\n"
	}
	return text
}

// checkMergeCommit tells whether it clashes.
func checkMergeCommit(t *testing.T, name string, g graph, a, b int, note string) bool {
	t.Helper()
	objs, id, told, right := g.mergeOf(t, a, b, note)
	l, got, keys, ok := impl.MergeCommit(g.objs, g.ids[a], g.ids[b], note)
	if ok != right || got != id || !slices.Equal(l, objs) || !slices.Equal(keys, told) {
		t.Errorf("%s: MergeCommit of %d, %d tells %q, %q, %q, %v, not %q, %q", name, a, b, l, got, keys, ok, id, told)
	}
	if ok && (!impl.RepoOk(l) || !impl.IsAncestor(l, g.ids[a], got) || !impl.IsAncestor(l, g.ids[b], got)) {
		t.Errorf("%s: %d, %d are not behind what MergeCommit tells, or that is no repository", name, a, b)
	}
	return len(told) > 0
}

func TestMergeCommitOfAllGraphs(t *testing.T) {
	clashes := map[bool]int{}
	for name, g := range graphs() {
		for seed := range uint32(2) {
			h := mappedGraph(ternary(len(g.parents), seed), g.parents...)
			for a := range h.ids {
				for b := range h.ids {
					clashes[checkMergeCommit(t, name, h, a, b, "both")]++
				}
			}
		}
	}
	if clashes[true] < 100 || clashes[false] < 100 {
		t.Errorf("of all mergers %d clash, %d do not", clashes[true], clashes[false])
	}
}

// The answers are written down here.
func TestMergeCommitOfNamedCommits(t *testing.T) {
	fork := [][]int{nil, {0}, {0}}
	for _, c := range []struct {
		name    string
		maps    []string
		parents [][]int
		a, b    int
		want    string
		told    string
	}{
		{"each puts one in", []string{"a=1\n", "a=1\nb=1\n", "a=1\nc=1\n"}, fork, 1, 2, "a=1\nb=1\nc=1\n", ""},
		{"one drops, one changes another", []string{"a=1\nb=1\n", "b=1\n", "a=1\nb=2\n"}, fork, 1, 2, "b=2\n", ""},
		{"both alike", []string{"a=1\n", "a=2\n", "a=2\n"}, fork, 1, 2, "a=2\n", ""},
		{"one as base", []string{"a=1\n", "a=1\n", ""}, fork, 1, 2, "", ""},
		{"one clashes", []string{"a=1\n", "a=2\nb=1\n", "a=3\nc=1\n"}, fork, 1, 2, "", "a"},
		{"one is dropped and changed", []string{"a=1\n", "", "a=2\n"}, fork, 1, 2, "", "a"},
		{"three clash", []string{"b=1\n", "a=1\nb=2\nc=1\nd=1\n", "a=2\nc=2\nd=1\n"}, fork, 1, 2, "", "a b c"},
		{"nothing in common, unlike keys", []string{"a=1\n", "b=1\n"}, [][]int{nil, nil}, 0, 1, "a=1\nb=1\n", ""},
		{"nothing in common, alike", []string{"a=1\n", "a=1\n"}, [][]int{nil, nil}, 0, 1, "a=1\n", ""},
		{"nothing in common, unlike", []string{"a=1\n", "a=2\n"}, [][]int{nil, nil}, 0, 1, "", "a"},
		{"nothing in common, no pairs", []string{"", ""}, [][]int{nil, nil}, 0, 1, "", ""},
		{"nothing in common, far on", []string{"a=1\n", "b=1\n", "c=1\n", "a=1\nb=2\n"}, [][]int{nil, nil, {0}, {1}}, 2, 3, "a=1\nb=2\nc=1\n", ""},
		{"base is not the first of all", []string{"a=1\n", "a=2\n", "a=2\nb=1\n", "a=1\n"}, [][]int{nil, {0}, {1}, {1}}, 2, 3, "a=1\nb=1\n", ""},
	} {
		g := mappedGraph(c.maps, c.parents...)
		for _, pair := range [][2]int{{c.a, c.b}, {c.b, c.a}} {
			l, id, told, ok := impl.MergeCommit(g.objs, g.ids[pair[0]], g.ids[pair[1]], "m")
			if c.told != "" {
				if ok || len(l) != 0 || id != "" || !slices.Equal(told, strings.Fields(c.told)) {
					t.Errorf("%s: MergeCommit tells %q, %q, %q, %v", c.name, l, id, told, ok)
				}
				continue
			}
			commit, _ := impl.CommitAt(l, id)
			if !ok || len(told) != 0 || commit.Note != "m" || !slices.Equal(commit.Parents, g.rising([]int{c.a, c.b})) || commit.Tree != idOf("map\n"+c.want) {
				t.Errorf("%s: MergeCommit tells %q, %q, %q, %v", c.name, l, id, told, ok)
			}
		}
		checkMergeCommit(t, c.name, g, c.a, c.b, "m")
	}
}

func TestMergeCommitWhereOneIsBehindTheOther(t *testing.T) {
	// Maps that would clash are not looked at; nor is there a commit more.
	g := mappedGraph([]string{"a=1\n", "a=2\n", "", "a=3\n"}, nil, []int{0}, []int{1}, []int{0, 2})
	for _, c := range []struct{ a, b, want int }{
		{0, 0, 0}, {3, 3, 3}, {1, 0, 1}, {0, 1, 1}, {2, 0, 2}, {0, 2, 2}, {3, 0, 3}, {0, 3, 3}, {3, 1, 3}, {1, 3, 3},
	} {
		for _, note := range []string{"", "x", strings.Repeat("~", 40)} {
			l, id, told, ok := impl.MergeCommit(g.objs, g.ids[c.a], g.ids[c.b], note)
			if !ok || id != g.ids[c.want] || len(told) != 0 || !slices.Equal(l, g.objs) {
				t.Errorf("MergeCommit of %d, %d tells %q, %q, %q, %v", c.a, c.b, l, id, told, ok)
			}
		}
	}
}

// Both bests are as one of both, so that the merger is as the other one. Which
// of the bests has the lower id is by chance, so both ways are gone.
func TestMergeCommitTakesTheFirstBase(t *testing.T) {
	first := map[int]int{}
	for i := range 20 {
		start := fmt.Sprintf("n=%d\n", i)
		maps := []string{start, "a=1\n" + start, "a=2\n" + start, "a=1\n" + start, "a=2\n" + start}
		g := mappedGraph(maps, nil, []int{0}, []int{0}, []int{1, 2}, []int{1, 2})
		base, other := 1, 2
		if g.ids[2] < g.ids[1] {
			base, other = 2, 1
		}
		first[base]++
		for _, pair := range [][2]int{{3, 4}, {4, 3}} {
			l, id, told, ok := impl.MergeCommit(g.objs, g.ids[pair[0]], g.ids[pair[1]], "")
			commit, _ := impl.CommitAt(l, id)
			if !ok || len(told) != 0 || commit.Tree != idOf("map\n"+maps[other]) {
				t.Errorf("%d: MergeCommit of %v tells %q, %q, %q, %v", i, pair, l, id, told, ok)
			}
		}
		checkMergeCommit(t, "two that cross", g, 3, 4, "")
	}
	if first[1] == 0 || first[2] == 0 {
		t.Errorf("the bests stand one way alone: %v", first)
	}
}

func TestMergeCommitThatIsThereAlready(t *testing.T) {
	g := mappedGraph([]string{"", "a=1\n", "b=1\n"}, nil, []int{0}, []int{0})
	once, id, _, ok := impl.MergeCommit(g.objs, g.ids[1], g.ids[2], "both")
	if !ok || len(once) != len(g.objs)+2 {
		t.Fatalf("MergeCommit tells %q, %q, %v", once, id, ok)
	}
	for _, pair := range [][2]string{{g.ids[1], g.ids[2]}, {g.ids[2], g.ids[1]}} {
		if l, again, told, ok := impl.MergeCommit(once, pair[0], pair[1], "both"); !ok || again != id || len(told) != 0 || !slices.Equal(l, once) {
			t.Errorf("there already: MergeCommit tells %q, %q, %q, %v", l, again, told, ok)
		}
		// With another note it is another commit, of the same tree.
		if l, other, _, ok := impl.MergeCommit(once, pair[0], pair[1], "Both"); !ok || other == id || len(l) != len(once)+1 {
			t.Errorf("another note: MergeCommit tells %q, %q, %v", l, other, ok)
		}
		// Each is behind the merger now.
		if l, same, _, ok := impl.MergeCommit(once, pair[0], id, "more"); !ok || same != id || !slices.Equal(l, once) {
			t.Errorf("with the merger: MergeCommit tells %q, %q, %v", l, same, ok)
		}
	}
}

func TestMergeCommitAtFortyPairs(t *testing.T) {
	text := func(m []impl.Pair) string { return strings.TrimPrefix(treeOf(m), "map\n") }
	for _, c := range []struct {
		name       string
		base, a, b []impl.Pair
		want       bool
	}{
		{"40 come of it", nil, lettered(20, "a"), lettered(20, "b"), true},
		{"41 come of it", nil, lettered(20, "a"), lettered(21, "b"), false},
		// The keys are not told where Merged is false.
		{"41, and one clashes", numbered(1), append(numbered(20)[1:], lettered(20, "x")...), append(emptied(numbered(1)), lettered(20, "y")...), false},
	} {
		g := mappedGraph([]string{text(c.base), text(c.a), text(c.b)}, nil, []int{0}, []int{0})
		l, id, told, ok := impl.MergeCommit(g.objs, g.ids[1], g.ids[2], "")
		if ok != c.want || len(told) != 0 || (id != "") != c.want || (len(l) != 0) != c.want {
			t.Errorf("%s: MergeCommit tells %q, %q, %q, %v", c.name, l, id, told, ok)
		}
		if c.want {
			checkMergeCommit(t, c.name, g, 1, 2, "")
		}
	}
}

func TestMergeCommitAtSixtyObjects(t *testing.T) {
	first, one, other := commitText(idOf("map\n"), "0"), commitText(idOf(treeA), "1"), commitText(idOf(treeB), "2")
	third := commitText(idOf("map\na=2\n"), "3")
	have := []string{"map\n", treeA, treeB, "map\na=2\n", first, one, other, third}
	tree := "map\na=1\nb=2\n"
	merger := commitText(idOf(tree), "both", parents(one, other)...)
	for _, c := range []struct {
		name string
		more []string
		want bool
	}{
		{"58, both new", trees(50), true},
		{"59, both new", trees(51), false},
		{"60, both new", trees(52), false},
		{"59 with the tree", append(trees(50), tree), true},
		{"60 with the tree", append(trees(51), tree), false},
		{"60 with both", append(trees(50), tree, merger), true},
	} {
		all := append(slices.Clone(have), c.more...)
		l, id, told, ok := impl.MergeCommit(objsOf(all...), idOf(one), idOf(other), "both")
		if ok != c.want || len(told) != 0 {
			t.Errorf("%s: MergeCommit tells %q, %v", c.name, told, ok)
		}
		if ok && (id != idOf(merger) || !slices.Equal(l, objsOf(append(all, tree, merger)...))) || !ok && (id != "" || len(l) != 0) {
			t.Errorf("%s: MergeCommit tells %q, %q, %v", c.name, l, id, ok)
		}
		// A clash is told, and what is behind another one is, however many there are.
		if l, id, told, ok := impl.MergeCommit(objsOf(all...), idOf(one), idOf(third), "both"); ok || len(l) != 0 || id != "" || !slices.Equal(told, []string{"a"}) {
			t.Errorf("%s: MergeCommit of two that clash tells %q, %q, %q, %v", c.name, l, id, told, ok)
		}
		if l, id, _, ok := impl.MergeCommit(objsOf(all...), idOf(one), idOf(one), "both"); !ok || id != idOf(one) || !slices.Equal(l, objsOf(all...)) {
			t.Errorf("%s: MergeCommit of one and itself tells %q, %q, %v", c.name, l, id, ok)
		}
	}
}

func checkNoMergeCommit(t *testing.T, name string, l []impl.Obj, a, b, note string) {
	t.Helper()
	for _, pair := range [][2]string{{a, b}, {b, a}} {
		if n, id, told, ok := impl.MergeCommit(l, pair[0], pair[1], note); ok || len(n) != 0 || id != "" || len(told) != 0 {
			t.Errorf("%s: MergeCommit of %q tells %q, %q, %q, %v", name, pair, n, id, told, ok)
		}
	}
}

// forked has commits that merge (1, 2), clash (1, 3), or are behind others (0).
func forked() graph {
	return mappedGraph([]string{"a=1\n", "a=1\nb=1\n", "a=1\nc=1\n", "a=1\nb=2\n"}, nil, []int{0}, []int{0}, []int{0})
}

// wrongNotes are notes that are none.
func wrongNotes() []string {
	return []string{strings.Repeat("x", 41), strings.Repeat("x", 100000), "\n", "x\n", "\x00", "\x1f", "\x7f", "\xc3\xa4", strings.Repeat("x", 39) + "\x80"}
}

func TestMergeCommitRefusesNotesThatAreNone(t *testing.T) {
	g := forked()
	for _, note := range wrongNotes() {
		for _, pair := range [][2]int{{1, 2}, {1, 3}, {0, 1}, {0, 0}, {2, 2}} {
			checkNoMergeCommit(t, fmt.Sprintf("note %.50q", note), g.objs, g.ids[pair[0]], g.ids[pair[1]], note)
		}
	}
	for _, note := range []string{"", " ", "\x20\x7e", strings.Repeat("x", 40)} {
		checkMergeCommit(t, note, g, 1, 2, note)
		checkMergeCommit(t, note, g, 0, 1, note)
	}
}

func TestMergeCommitRefusesWhatIsNoCommit(t *testing.T) {
	g := forked()
	for _, none := range append(noCommits(), idOf("map\na=1\nb=1\n"), "commit", g.ids[1]+"0", g.ids[1][:15], strings.ToUpper(g.ids[1])+" ") {
		for _, id := range append(slices.Clone(g.ids), none, idOf(treeA)) {
			checkNoMergeCommit(t, "no commit", g.objs, none, id, "both")
		}
	}
	for _, a := range g.ids {
		for _, b := range g.ids {
			checkNoMergeCommit(t, "no objects", nil, a, b, "both")
		}
	}
}

func TestMergeCommitRefusesWhatIsNoRepository(t *testing.T) {
	first := idOf(commitText(idOf(treeA), "first"))
	for name, list := range notRightRepos() {
		other := commitText(idOf(treeB), "other")
		l := objsOf(append(list, treeB, other)...)
		checkNoMergeCommit(t, name, l, first, idOf(other), "both")
		checkNoMergeCommit(t, name, l, first, first, "both")
		checkNoMergeCommit(t, name, l, first, idOf(list[0]), "both")
	}
	for name, l := range notRightTreesAndCommits() {
		checkNoMergeCommit(t, name, l, first, first, "both")
	}
	for name, l := range notRightObjs() {
		checkNoMergeCommit(t, name, l, idOf("abc"), idOf("abc"), "both")
	}
	g := forked()
	wrong := map[string][]impl.Obj{
		"ids fall":     slices.Concat(g.objs[1:2], g.objs[:1], g.objs[2:]),
		"one twice":    slices.Concat(g.objs[:1], g.objs),
		"another text": append(slices.Clone(g.objs), impl.Obj{Id: "ffffffffffffffff", Text: "map\n"}),
		"61 objects":   objsOf(append(trees(53), g.texts...)...),
	}
	for name, l := range wrong {
		for _, a := range g.ids {
			for _, b := range g.ids {
				checkNoMergeCommit(t, name, l, a, b, "both")
			}
		}
	}
	if n := len(wrong["61 objects"]); n != 61 {
		t.Errorf("there are %d objects, not 61", n)
	}
}

func TestMergeCommitLeavesItsArguments(t *testing.T) {
	g := forked()
	for _, l := range [][]impl.Obj{nil, g.objs, objsOf("abc", "def"), g.objs[1:]} {
		r := newRoomy(l, spareObj)
		for _, a := range g.ids {
			for _, b := range g.ids {
				n, _, told, _ := impl.MergeCommit(r.list(), a, b, "both")
				spoil(n, spareObj)
				spoil(told, "spoilt")
				r.check(t, "MergeCommit")
			}
		}
	}
}

func TestMergerCallsAnswerTheSameAgain(t *testing.T) {
	g := forked()
	base, a, b := numbered(5), lettered(3, "a"), append(numbered(4), lettered(2, "z")...)
	a = append(a, impl.Pair{Key: "k00", Val: "other"})
	b[0].Val = "unlike"
	want, told := mergedFrom(base, a, b, nil)
	for range 20 {
		m, keys, ok := impl.Merged(base, a, b)
		if !ok || !slices.Equal(m, want) || !slices.Equal(keys, told) {
			t.Errorf("Merged tells %q, %q, %v", m, keys, ok)
		}
		spoil(m, sparePair)
		spoil(keys, "spoilt")
		checkMerger(t, "again", base, a, b)
		for _, pair := range [][2]int{{1, 2}, {1, 3}, {0, 1}} {
			checkMergeCommit(t, "again", g, pair[0], pair[1], "both")
			l, _, keys, _ := impl.MergeCommit(g.objs, g.ids[pair[0]], g.ids[pair[1]], "both")
			spoil(l, spareObj)
			spoil(keys, "spoilt")
		}
	}
}

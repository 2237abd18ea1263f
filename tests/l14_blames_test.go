package tests

import (
	"fmt"
	"maps"
	"slices"
	"strings"
	"testing"

	"loop.example/g00652/impl"
)

var spareBlame = impl.Blame{Key: "spare", Id: idMid}

// held is what a commit has of a key, as a text: "no" where it has none.
func (g graph) held(t *testing.T, at int, key string) string {
	t.Helper()
	vals := valsOf(pairs(t, g.maps[at]))
	if !has(vals, key) {
		return "no"
	}
	return "=" + vals[key]
}

// giver is the place of who gave a key its value, as the document has it.
func (g graph) giver(t *testing.T, at int, key string) int {
	t.Helper()
	for _, parent := range g.parentsAt(at) {
		if g.held(t, parent, key) == g.held(t, at, key) {
			return g.giver(t, parent, key)
		}
	}
	return at
}

func (g graph) blamesAt(t *testing.T, at int) []impl.Blame {
	t.Helper()
	var out []impl.Blame
	for _, key := range keys(pairs(t, g.maps[at])) {
		out = append(out, impl.Blame{Key: key, Id: g.ids[g.giver(t, at, key)]})
	}
	return out
}

func (g graph) touches(t *testing.T, at int, key string) bool {
	t.Helper()
	if len(g.parents[at]) == 0 {
		return g.held(t, at, key) != "no"
	}
	return !slices.ContainsFunc(g.parents[at], func(parent int) bool {
		return g.held(t, parent, key) == g.held(t, at, key)
	})
}

// checkBlames asks for all that is told of a commit, and of these keys.
func checkBlames(t *testing.T, name string, g graph, at int, keys ...string) {
	t.Helper()
	if b := impl.BlameOf(g.objs, g.ids[at]); !slices.Equal(b, g.blamesAt(t, at)) {
		t.Errorf("%s: BlameOf %d tells %q, not %q", name, at, b, g.blamesAt(t, at))
	}
	log := g.log(g.behind(), at)
	for _, key := range keys {
		var touched []string
		vals := map[string]bool{}
		for _, id := range log {
			each := slices.Index(g.ids, id)
			if g.touches(t, each, key) {
				touched = append(touched, id)
			}
			if val, there := strings.CutPrefix(g.held(t, each, key), "="); there {
				vals[val] = true
			}
		}
		if l := impl.Touched(g.objs, g.ids[at], key); !slices.Equal(l, touched) {
			t.Errorf("%s: Touched of %d, %q tells %q, not %q", name, at, key, l, touched)
		}
		if l := impl.ValuesOf(g.objs, g.ids[at], key); !slices.Equal(l, slices.Sorted(maps.Keys(vals))) {
			t.Errorf("%s: ValuesOf %d, %q tells %q, not %v", name, at, key, l, vals)
		}
	}
}

func TestBlamesOfAllGraphs(t *testing.T) {
	for name, g := range graphs() {
		for seed := range uint32(4) {
			h := mappedGraph(ternary(len(g.parents), seed), g.parents...)
			for at := range h.ids {
				checkBlames(t, name, h, at, "p", "q", "r", "s")
			}
		}
		for at := range g.ids {
			checkBlames(t, name+", one map", g, at, "a", "b")
		}
	}
}

// What is promised, asked of the answers alone.
func TestBlamesKeepTheirPromise(t *testing.T) {
	for name, g := range graphs() {
		h := mappedGraph(ternary(len(g.parents), 11), g.parents...)
		for _, id := range h.ids {
			m, _ := impl.MapAt(h.objs, id)
			blames := impl.BlameOf(h.objs, id)
			if len(blames) != len(m) {
				t.Fatalf("%s: BlameOf tells %q of a map of %d pairs", name, blames, len(m))
			}
			for i, b := range blames {
				if b.Key != m[i].Key {
					t.Errorf("%s: BlameOf tells of %q, not of %q", name, b.Key, m[i].Key)
				}
				checkGiver(t, name, h.objs, id, b, m[i].Val)
			}
		}
	}
}

// checkGiver asks that who is told is behind the commit, and has the key with
// that value, which none of its parents has.
func checkGiver(t *testing.T, name string, l []impl.Obj, id string, b impl.Blame, val string) {
	t.Helper()
	if !impl.IsAncestor(l, b.Id, id) {
		t.Errorf("%s: %s is not behind %s", name, b.Id, id)
	}
	m, _ := impl.MapAt(l, b.Id)
	if got, there := impl.Get(m, b.Key); !there || got != val {
		t.Errorf("%s: %s has %q of %q, not %q", name, b.Id, got, b.Key, val)
	}
	c, _ := impl.CommitAt(l, b.Id)
	for _, parent := range c.Parents {
		m, _ := impl.MapAt(l, parent)
		if got, there := impl.Get(m, b.Key); there && got == val {
			t.Errorf("%s: %s was not who gave %q its value %q", name, b.Id, b.Key, val)
		}
	}
	if touched := impl.Touched(l, id, b.Key); !slices.Contains(touched, b.Id) {
		t.Errorf("%s: %s is not among those who touched %q: %q", name, b.Id, b.Key, touched)
	}
	if vals := impl.ValuesOf(l, id, b.Key); !slices.Contains(vals, val) || !slices.IsSorted(vals) {
		t.Errorf("%s: %q is not among the values of %q: %q", name, val, b.Key, vals)
	}
}

// The answers are written down here: who is told of each key, by places.
func TestBlameOfNamedCommits(t *testing.T) {
	line := [][]int{nil, {0}, {1}, {2}}
	for _, c := range []struct {
		name    string
		maps    []string
		parents [][]int
		want    map[string]int
	}{
		{"no parents", []string{"a=1\nb=2\n"}, [][]int{nil}, map[string]int{"a": 0, "b": 0}},
		{"no parents, no pairs", []string{""}, [][]int{nil}, nil},
		{"no pairs left", []string{"a=1\n", ""}, line[:2], nil},
		{"one that is far behind", []string{"a=1\n", "a=1\n", "a=1\n", "a=1\n"}, line, map[string]int{"a": 0}},
		{"one between", []string{"a=1\n", "a=1\n", "a=2\n", "a=2\n"}, line, map[string]int{"a": 2}},
		{"itself", []string{"a=1\n", "a=1\n", "a=1\n", "a=2\n"}, line, map[string]int{"a": 3}},
		{"one that is put in later", []string{"", "a=1\n", "a=1\nb=1\n", "a=1\nb=1\nc=1\n"}, line, map[string]int{"a": 1, "b": 2, "c": 3}},
		{"a value that was turned and came again", []string{"a=1\n", "a=2\n", "a=1\n"}, line[:3], map[string]int{"a": 2}},
		{"a value that came again, and stayed", []string{"a=1\n", "a=2\n", "a=1\n", "a=1\n"}, line, map[string]int{"a": 2}},
		{"a key that was dropped and came again", []string{"a=1\n", "", "a=1\n"}, line[:3], map[string]int{"a": 2}},
		{"an empty value where there was none", []string{"", "a=\n"}, line[:2], map[string]int{"a": 1}},
		{"an empty value that stays", []string{"a=\n", "a=\n"}, line[:2], map[string]int{"a": 0}},
		{"a value that is emptied", []string{"a=1\n", "a=\n"}, line[:2], map[string]int{"a": 1}},
		{"a value under another key", []string{"a=1\n", "b=1\n"}, line[:2], map[string]int{"b": 1}},
		{"another one of the same map", []string{"a=1\n", "a=1\n"}, [][]int{nil, nil}, map[string]int{"a": 1}},
		{"a merger of unlike keys", []string{"", "a=1\n", "b=1\n", "a=1\nb=1\nc=1\n"}, [][]int{nil, {0}, {0}, {1, 2}}, map[string]int{"a": 1, "b": 2, "c": 3}},
		{"a merger, unlike both", []string{"a=1\n", "a=2\n", "a=3\n", "a=1\n"}, [][]int{nil, {0}, {0}, {1, 2}}, map[string]int{"a": 3}},
		{"a merger, from where both come", []string{"a=1\n", "a=1\nb=1\n", "a=1\nc=1\n", "a=1\n"}, [][]int{nil, {0}, {0}, {1, 2}}, map[string]int{"a": 0}},
		{"a merger, from one of both", []string{"a=1\n", "a=2\n", "a=1\n", "a=2\n"}, [][]int{nil, {0}, {0}, {1, 2}}, map[string]int{"a": 1}},
		{"a merger, from the other one", []string{"a=1\n", "a=1\n", "a=2\n", "a=1\n"}, [][]int{nil, {0}, {0}, {1, 2}}, map[string]int{"a": 0}},
	} {
		g := mappedGraph(c.maps, c.parents...)
		var want []impl.Blame
		for _, key := range slices.Sorted(maps.Keys(c.want)) {
			want = append(want, impl.Blame{Key: key, Id: g.ids[c.want[key]]})
		}
		last := len(g.ids) - 1
		if b := impl.BlameOf(g.objs, g.ids[last]); !slices.Equal(b, want) {
			t.Errorf("%s: BlameOf tells %q, not %q", c.name, b, want)
		}
		checkBlames(t, c.name, g, last, "a", "b", "c")
	}
}

// Which of the parents has the lower id is by chance, so both ways are gone.
func TestBlameOfMergersGoesByTheFirstParentThatHas(t *testing.T) {
	first := map[int]int{}
	for i := range 20 {
		n := fmt.Sprintf("n=%d\n", i)
		// Both gave a and b a value each of their own; c and d have one of them alone.
		one, other := "a=1\nb=1\nc=1\n"+n, "a=1\nb=2\nd=1\n"+n
		g := mappedGraph([]string{n, one, other, "a=1\nb=1\nc=1\nd=1\n" + n, "a=1\nb=2\nd=1\n" + n}, nil, []int{0}, []int{0}, []int{1, 2}, []int{1, 2})
		at := 1
		if g.ids[2] < g.ids[1] {
			at = 2
		}
		first[at]++
		want := []impl.Blame{{Key: "a", Id: g.ids[at]}, {Key: "b", Id: g.ids[1]}, {Key: "c", Id: g.ids[1]}, {Key: "d", Id: g.ids[2]}, {Key: "n", Id: g.ids[0]}}
		if b := impl.BlameOf(g.objs, g.ids[3]); !slices.Equal(b, want) {
			t.Errorf("%d: BlameOf tells %q, not %q", i, b, want)
		}
		want = []impl.Blame{{Key: "a", Id: g.ids[at]}, {Key: "b", Id: g.ids[2]}, {Key: "d", Id: g.ids[2]}, {Key: "n", Id: g.ids[0]}}
		if b := impl.BlameOf(g.objs, g.ids[4]); !slices.Equal(b, want) {
			t.Errorf("%d: BlameOf tells %q, not %q", i, b, want)
		}
	}
	if first[1] == 0 || first[2] == 0 {
		t.Errorf("the parents stand one way alone: %v", first)
	}
}

// The answers are written down here: who touched the key a, by places, as they
// stand in a log, and its values.
func TestTouchedAndValuesOfNamedCommits(t *testing.T) {
	line := [][]int{nil, {0}, {1}, {2}}
	fork := [][]int{nil, {0}, {0}, {1, 2}}
	for _, c := range []struct {
		name    string
		maps    []string
		parents [][]int
		want    []int
		vals    []string
	}{
		{"no parents", []string{"a=1\n"}, line[:1], []int{0}, []string{"1"}},
		{"no parents, an empty value", []string{"a=\n"}, line[:1], []int{0}, []string{""}},
		{"no parents, another key", []string{"b=1\n"}, line[:1], nil, nil},
		{"nobody has it", []string{"", "b=1\n", "b=2\n", ""}, line, nil, nil},
		{"nobody of a fork has it", []string{"", "b=1\n", "c=2\n", "b=1\nc=2\n"}, fork, nil, nil},
		{"it stays", []string{"a=1\n", "a=1\nb=1\n", "a=1\n", "a=1\n"}, line, []int{0}, []string{"1"}},
		{"it comes later", []string{"", "", "a=1\n", "a=1\n"}, line, []int{2}, []string{"1"}},
		{"it is turned", []string{"a=1\n", "a=2\n", "a=2\n", "a=3\n"}, line, []int{3, 1, 0}, []string{"1", "2", "3"}},
		{"it is turned to and fro", []string{"a=2\n", "a=1\n", "a=2\n", "a=1\n"}, line, []int{3, 2, 1, 0}, []string{"1", "2"}},
		{"it is dropped", []string{"a=1\n", "a=1\n", "", "b=1\n"}, line, []int{2, 0}, []string{"1"}},
		{"it is dropped and comes again", []string{"a=1\n", "", "a=1\n", ""}, line, []int{3, 2, 1, 0}, []string{"1"}},
		{"an empty value comes", []string{"", "a=\n", "a=\n", ""}, line, []int{3, 1}, []string{""}},
		{"a value is emptied", []string{"a=1\n", "a=\n", "a=\n", "a=1\n"}, line, []int{3, 1, 0}, []string{"", "1"}},
		{"a merger has it unlike both", []string{"a=1\n", "a=1\n", "a=1\n", "a=2\n"}, fork, []int{3, 0}, []string{"1", "2"}},
		{"a merger drops what both have", []string{"a=1\n", "a=1\n", "a=1\n", ""}, fork, []int{3, 0}, []string{"1"}},
		{"a merger has it as both", []string{"a=1\n", "a=1\n", "a=1\n", "a=1\nb=1\n"}, fork, []int{0}, []string{"1"}},
		{"a merger puts it in", []string{"", "", "", "a=1\n"}, fork, []int{3}, []string{"1"}},
		{"a merger puts it in empty", []string{"", "", "", "a=\n"}, fork, []int{3}, []string{""}},
		{"a merger has it as one of both", []string{"a=1\n", "a=2\n", "a=1\n", "a=2\n"}, fork, []int{1, 0}, []string{"1", "2"}},
		{"a merger has it as the other one", []string{"a=1\n", "a=2\n", "a=1\n", "a=1\n"}, fork, []int{1, 0}, []string{"1", "2"}},
		{"a merger drops it as one of both", []string{"a=1\n", "a=1\n", "", ""}, fork, []int{2, 0}, []string{"1"}},
		{"a merger keeps it from one of both", []string{"a=1\n", "a=1\n", "", "a=1\n"}, fork, []int{2, 0}, []string{"1"}},
		{"values rise as bytes", []string{"a=9\n", "a=10\n", "a=Z\n", "a= \n"}, line, []int{3, 2, 1, 0}, []string{" ", "10", "9", "Z"}},
	} {
		g := mappedGraph(c.maps, c.parents...)
		id := g.ids[len(g.ids)-1]
		if l := impl.Touched(g.objs, id, "a"); !slices.Equal(l, g.idsAt(c.want)) {
			t.Errorf("%s: Touched tells %q, not %q", c.name, l, g.idsAt(c.want))
		}
		if l := impl.ValuesOf(g.objs, id, "a"); !slices.Equal(l, c.vals) {
			t.Errorf("%s: ValuesOf tells %q, not %q", c.name, l, c.vals)
		}
	}
}

// Of one depth they stand by their ids, and what is not behind does not count.
func TestTouchedStandsAsALog(t *testing.T) {
	parents := halves(16)
	var texts []string
	for i := range parents {
		texts = append(texts, fmt.Sprintf("a=%d\n", i))
	}
	g := mappedGraph(texts[:20], parents[:20]...)
	for at := range g.ids {
		if l := impl.Touched(g.objs, g.ids[at], "a"); !slices.Equal(l, g.log(g.behind(), at)) {
			t.Errorf("Touched of %d tells %q", at, l)
		}
		checkBlames(t, "all unlike", g, at, "a", "b")
	}
	long := mappedGraph([]string{"a=1\n", "a=2\n", "a=3\n", "a=4\n", "a=5\n"}, nil, []int{0}, []int{1}, nil, []int{2, 3})
	one, other := min(long.ids[0], long.ids[3]), max(long.ids[0], long.ids[3])
	want := []string{long.ids[4], long.ids[2], long.ids[1], one, other}
	if l := impl.Touched(long.objs, long.ids[4], "a"); !slices.Equal(l, want) {
		t.Errorf("Touched tells %q, not %q", l, want)
	}
	if l := impl.ValuesOf(long.objs, long.ids[1], "a"); !slices.Equal(l, []string{"1", "2"}) {
		t.Errorf("ValuesOf tells %q of what is not behind it, too", l)
	}
}

// With two parents each there are more ways behind the last one than could ever
// be gone one by one.
func TestBlamesOfSixtyObjects(t *testing.T) {
	for _, two := range []bool{false, true} {
		g := graphOf(chain(59, two)...)
		if b := impl.BlameOf(g.objs, g.ids[58]); !slices.Equal(b, []impl.Blame{{Key: "a", Id: g.ids[0]}}) {
			t.Errorf("BlameOf tells %q", b)
		}
		if l := impl.Touched(g.objs, g.ids[58], "a"); !slices.Equal(l, g.ids[:1]) {
			t.Errorf("Touched tells %q", l)
		}
		if l := impl.ValuesOf(g.objs, g.ids[58], "a"); !slices.Equal(l, []string{"1"}) {
			t.Errorf("ValuesOf tells %q", l)
		}
		checkNoBlames(t, "61 objects", graphOf(chain(60, two)...).objs, graphOf(chain(60, two)...).ids[0])
	}
	// 40 keys, of which each commit turns one.
	var texts []string
	m := numbered(40)
	for i := range 30 {
		m[i].Val = "turned"
		texts = append(texts, strings.TrimPrefix(treeOf(m), "map\n"))
	}
	g := mappedGraph(texts, chain(30, true)...)
	if len(g.objs) != 60 {
		t.Fatalf("there are %d objects", len(g.objs))
	}
	for at := range g.ids {
		checkBlames(t, "40 keys", g, at, "k00", "k15", "k29", "k39")
	}
}

// A key that is none is one that nobody has.
func TestBlamesOfKeysThatAreNone(t *testing.T) {
	g := mappedGraph([]string{"a=1\nmain=1\n", "a=\n", "", "z=1\n"}, nil, []int{0}, []int{1}, []int{0, 2})
	for at := range g.ids {
		for _, key := range append(wrongNames(), "b", "0", "a=1", "aa", "zzzzzzzz") {
			if l := impl.Touched(g.objs, g.ids[at], key); len(l) != 0 {
				t.Errorf("Touched of %.20q tells %q", key, l)
			}
			if l := impl.ValuesOf(g.objs, g.ids[at], key); len(l) != 0 {
				t.Errorf("ValuesOf %.20q tells %q", key, l)
			}
		}
	}
}

func checkNoBlames(t *testing.T, name string, l []impl.Obj, id string) {
	t.Helper()
	if b := impl.BlameOf(l, id); len(b) != 0 {
		t.Errorf("%s: BlameOf %.20q tells %q", name, id, b)
	}
	for _, key := range []string{"a", "b", "", "A", "none"} {
		if n := impl.Touched(l, id, key); len(n) != 0 {
			t.Errorf("%s: Touched of %.20q, %q tells %q", name, id, key, n)
		}
		if n := impl.ValuesOf(l, id, key); len(n) != 0 {
			t.Errorf("%s: ValuesOf %.20q, %q tells %q", name, id, key, n)
		}
	}
}

func TestBlamesOfWhatIsNoCommit(t *testing.T) {
	g := mappedGraph([]string{"a=1\n", "a=1\nb=1\n"}, nil, []int{0})
	ids := slices.Concat(noCommits(), wrongIds(), []string{idOf("map\na=1\nb=1\n"), g.ids[1] + "0", g.ids[1][:15], "commit"})
	for _, id := range ids {
		checkNoBlames(t, "no commit", g.objs, id)
	}
	for _, id := range append(ids, g.ids...) {
		checkNoBlames(t, "no objects", nil, id)
		checkNoBlames(t, "trees alone", objsOf(treeA, treeB), id)
	}
}

func TestBlamesOfWhatIsNoRepository(t *testing.T) {
	first := idOf(commitText(idOf(treeA), "first"))
	for name, l := range wrongRepos() {
		for _, id := range []string{first, idOf(treeA), idOf("abc"), ""} {
			checkNoBlames(t, name, l, id)
		}
	}
	// Each object of these is needed; without it nothing is told, not even of others.
	g := mappedGraph([]string{"a=1\n", "a=2\n", "a=3\n", "a=4\n"}, nil, []int{0}, []int{1}, nil)
	for i, o := range g.objs {
		if o.Id != g.ids[2] && o.Id != g.ids[3] {
			for _, id := range g.ids {
				checkNoBlames(t, "one is gone", slices.Delete(slices.Clone(g.objs), i, i+1), id)
			}
		}
	}
}

func TestBlameCallsLeaveTheirArguments(t *testing.T) {
	g := mappedGraph(ternary(7, 4), crossing(3)...)
	for _, l := range [][]impl.Obj{nil, g.objs, g.objs[1:], graphOf(chain(59, true)...).objs, objsOf("abc", "def")} {
		r := newRoomy(l, spareObj)
		for _, id := range append(slices.Clone(g.ids), idLow) {
			spoil(impl.BlameOf(r.list(), id), spareBlame)
			for _, key := range []string{"p", "q", "a", ""} {
				spoil(impl.Touched(r.list(), id, key), "spoilt")
				spoil(impl.ValuesOf(r.list(), id, key), "spoilt")
			}
		}
		r.check(t, "a call of blames")
	}
}

func TestBlameCallsAnswerTheSameAgain(t *testing.T) {
	g := mappedGraph(ternary(9, 6), crossing(4)...)
	for range 20 {
		checkBlames(t, "again", g, 8, "p", "q", "r")
		spoil(impl.BlameOf(g.objs, g.ids[8]), spareBlame)
		spoil(impl.Touched(g.objs, g.ids[8], "p"), "spoilt")
		spoil(impl.ValuesOf(g.objs, g.ids[8], "p"), "spoilt")
	}
}

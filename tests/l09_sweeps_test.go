package tests

import (
	"fmt"
	"slices"
	"testing"

	"loop.example/g00652/impl"
)

// refsTo are right refs to these ids, as many as 20.
func refsTo(ids ...string) []impl.Ref {
	r := numberedRefs(len(ids))
	for i, id := range ids {
		r[i].Id = id
	}
	return r
}

// checkSweep asks that just these are reached, and that these names are missing.
func checkSweep(t *testing.T, name string, l []impl.Obj, r []impl.Ref, want []impl.Obj, missing ...string) {
	t.Helper()
	if ids := impl.Reached(l, r); !slices.Equal(ids, objIds(want)) {
		t.Errorf("%s: Reached tells %q, not %q", name, ids, objIds(want))
	}
	if names := impl.Missing(l, r); !slices.Equal(names, missing) {
		t.Errorf("%s: Missing tells %q, not %q", name, names, missing)
	}
	whole := len(missing) == 0
	if !whole {
		want = nil
	}
	if n, ok := impl.Swept(l, r); ok != whole || !slices.Equal(n, want) {
		t.Errorf("%s: Swept tells %q, %v, not %q", name, n, ok, want)
	}
}

func TestSweepsOfAllGraphs(t *testing.T) {
	for name, g := range graphs() {
		for _, maps := range [][]string{g.maps, ternary(len(g.parents), 1)} {
			h := mappedGraph(maps, g.parents...)
			checkSweep(t, name+", no refs", h.objs, nil, nil)
			first := min(20, len(h.ids))
			checkSweep(t, name+", the first ones", h.objs, refsTo(h.ids[:first]...), h.part(places(first)...))
			for a := range h.ids {
				checkSweep(t, fmt.Sprint(name, ", ", a), h.objs, refsTo(h.ids[a]), h.part(a))
				for b := a % 3; b < len(h.ids); b += 3 {
					checkSweep(t, fmt.Sprint(name, ", ", a, ", ", b), h.objs, refsTo(h.ids[a], h.ids[b]), h.part(a, b))
				}
			}
		}
	}
}

// places are those of n rows.
func places(n int) []int {
	var out []int
	for i := range n {
		out = append(out, i)
	}
	return out
}

// The answers are written down here: the places of commits, and trees.
func TestSweepsOfNamedCommits(t *testing.T) {
	one, two, three := "a=1\n", "b=2\n", "c=3\n"
	line := [][]int{nil, {0}, {1}}
	cross := [][]int{nil, {0}, {0}, {1, 2}, {1, 2}}
	for _, c := range []struct {
		name    string
		maps    []string
		parents [][]int
		refs    []int
		commits []int
		trees   []string
	}{
		{"no refs", []string{one, two, three}, line, nil, nil, nil},
		{"the last one", []string{one, two, three}, line, []int{2}, []int{0, 1, 2}, []string{one, two, three}},
		{"the first one", []string{one, two, three}, line, []int{0}, []int{0}, []string{one}},
		{"one between", []string{one, two, three}, line, []int{1}, []int{0, 1}, []string{one, two}},
		{"two refs to one commit", []string{one, two, three}, line, []int{1, 1}, []int{0, 1}, []string{one, two}},
		{"one behind the other", []string{one, two, three}, line, []int{0, 1}, []int{0, 1}, []string{one, two}},
		{"the other one behind it", []string{one, two, three}, line, []int{1, 0}, []int{0, 1}, []string{one, two}},
		{"a tree of one that is reached and of one that is not", []string{one, one}, [][]int{nil, nil}, []int{0}, []int{0}, []string{one}},
		{"a tree of a child that is not reached", []string{one, one, two}, line, []int{0}, []int{0}, []string{one}},
		{"a tree that is there again", []string{one, two, one}, line, []int{2}, []int{0, 1, 2}, []string{one, two}},
		{"two of one tree", []string{one, one, one}, line, []int{2}, []int{0, 1, 2}, []string{one}},
		{"a tree without pairs", []string{"", two}, [][]int{nil, nil}, []int{0}, []int{0}, []string{""}},
		{"one of a fork", []string{one, two, three}, [][]int{nil, {0}, {0}}, []int{2}, []int{0, 2}, []string{one, three}},
		{"both of a fork", []string{one, two, three}, [][]int{nil, {0}, {0}}, []int{2, 1}, []int{0, 1, 2}, []string{one, two, three}},
		{"two parents", []string{one, two, three}, [][]int{nil, nil, {0, 1}}, []int{2}, []int{0, 1, 2}, []string{one, two, three}},
		{"one of two parents", []string{one, two, three}, [][]int{nil, nil, {0, 1}}, []int{1}, []int{1}, []string{two}},
		{"one of two that cross", []string{"", one, two, three, "d=4\n"}, cross, []int{3}, []int{0, 1, 2, 3}, []string{"", one, two, three}},
		{"the other one of them", []string{"", one, two, three, "d=4\n"}, cross, []int{4}, []int{0, 1, 2, 4}, []string{"", one, two, "d=4\n"}},
		{"both of two that cross", []string{"", one, two, three, "d=4\n"}, cross, []int{3, 4}, []int{0, 1, 2, 3, 4}, []string{"", one, two, three, "d=4\n"}},
		{"nothing in common", []string{one, two, three, ""}, [][]int{nil, {0}, nil, {2}}, []int{3}, []int{2, 3}, []string{three, ""}},
	} {
		g := mappedGraph(c.maps, c.parents...)
		r, want := refsTo(g.idsAt(c.refs)...), g.objsAt(c.commits, c.trees)
		checkSweep(t, c.name, g.objs, r, want)
		// A tree that no commit has is reached by none.
		more := append(slices.Clone(g.texts), "map\nz=9\n")
		checkSweep(t, c.name+", and a tree alone", objsOf(more...), r, want)
	}
}

// Just those that are commits count; a tree that a ref names is not reached by it.
func TestSweepsWithRefsToNoCommit(t *testing.T) {
	g := mappedGraph([]string{"a=1\n", "b=2\n", "c=3\n"}, nil, []int{0}, []int{0})
	for _, none := range []string{idLow, idMid, idHigh, idOf("none"), idOf("map\na=1\n"), idOf("map\nb=2\n"), idOf("map\nc=3\n"), idOf("a=1\n")} {
		checkSweep(t, none+" alone", g.objs, refsTo(none), nil, "r00")
		checkSweep(t, none+" twice", g.objs, refsTo(none, none), nil, "r00", "r01")
		checkSweep(t, none+" first", g.objs, refsTo(none, g.ids[1]), g.part(1), "r00")
		checkSweep(t, none+" last", g.objs, refsTo(g.ids[1], none), g.part(1), "r01")
		checkSweep(t, none+" between", g.objs, refsTo(g.ids[1], none, g.ids[2]), g.part(1, 2), "r01")
		checkSweep(t, none+" around", g.objs, refsTo(none, g.ids[0], none), g.part(0), "r00", "r02")
		checkSweep(t, none+" of no objects", nil, refsTo(none), nil, "r00")
		checkSweep(t, none+" of trees alone", objsOf(trees(60)...), refsTo(none), nil, "r00")
	}
	checkSweep(t, "no objects, no refs", nil, nil, nil)
	checkSweep(t, "trees alone, no refs", objsOf(trees(60)...), []impl.Ref{}, nil)
	checkSweep(t, "a tree alone, named", objsOf("map\n"), refsTo(idOf("map\n")), nil, "r00")
}

func TestSweepsWithTwentyRefs(t *testing.T) {
	g := mappedGraph(ternary(20, 3), mixed(20, 3)...)
	checkSweep(t, "20 commits", g.objs, refsTo(g.ids...), g.part(places(20)...))
	checkSweep(t, "20 times one", g.objs, refsTo(slices.Repeat(g.ids[7:8], 20)...), g.part(7))
	ids, there, names := slices.Clone(g.ids), []int{}, []string{}
	for i := range ids {
		if i%3 == 1 {
			there = append(there, i)
			continue
		}
		ids[i] = idOf(fmt.Sprint("none ", i))
		names = append(names, fmt.Sprintf("r%02d", i))
	}
	checkSweep(t, "every third one", g.objs, refsTo(ids...), g.part(there...), names...)
	// One ref more is not right, and nothing is told then.
	checkNoSweep(t, "21 refs", g.objs, refsTo(append(slices.Clone(g.ids), g.ids[0])...))
	checkNoSweep(t, "21 refs to none", g.objs, numberedRefs(21))
}

func TestSweepsOfSixtyObjects(t *testing.T) {
	for _, two := range []bool{false, true} {
		g := graphOf(chain(59, two)...)
		if len(g.objs) != 60 {
			t.Fatalf("there are %d objects", len(g.objs))
		}
		checkSweep(t, "the last of 59", g.objs, refsTo(g.ids[58]), g.objs)
		checkSweep(t, "one between", g.objs, refsTo(g.ids[30], g.ids[3]), g.part(30))
		more := graphOf(chain(60, two)...)
		checkNoSweep(t, "61 objects", more.objs, refsTo(more.ids[59]))
		checkNoSweep(t, "61 objects, one of no commit", more.objs, refsTo(more.ids[3], idLow))
	}
}

// checkNoSweep asks that nothing is told, not even of what is missing.
func checkNoSweep(t *testing.T, name string, l []impl.Obj, r []impl.Ref) {
	t.Helper()
	if ids := impl.Reached(l, r); len(ids) != 0 {
		t.Errorf("%s: Reached tells %q", name, ids)
	}
	if n, ok := impl.Swept(l, r); ok || len(n) != 0 {
		t.Errorf("%s: Swept tells %q, %v", name, n, ok)
	}
	if names := impl.Missing(l, r); len(names) != 0 {
		t.Errorf("%s: Missing tells %q", name, names)
	}
}

// named has each id that is one changed for this, so that refs that are not
// right are so for their one reason alone.
func named(r []impl.Ref, id string) []impl.Ref {
	out := slices.Clone(r)
	for i := range out {
		if impl.IdOk(out[i].Id) {
			out[i].Id = id
		}
	}
	return out
}

func TestSweepsRefuseRefsThatAreNotRight(t *testing.T) {
	g := graphOf(nil, []int{0})
	for why, r := range notRightRefs() {
		checkNoSweep(t, why, g.objs, r)
		checkNoSweep(t, why+", to a commit", g.objs, named(r, g.ids[1]))
		checkNoSweep(t, why+", no objects", nil, r)
	}
}

func TestSweepsRefuseWhatIsNoRepository(t *testing.T) {
	first := idOf(commitText(idOf(treeA), "first"))
	check := func(why string, l []impl.Obj, ids ...string) {
		t.Helper()
		checkNoSweep(t, why+", no refs", l, nil)
		checkNoSweep(t, why+", a ref to none", l, refsTo(idMid))
		checkNoSweep(t, why, l, refsTo(ids...))
		checkNoSweep(t, why+", refs that are not right", l, append(refsTo(ids...), refsTo(ids...)...))
	}
	for why, list := range notRightRepos() {
		check(why, objsOf(list...), first)
		check(why, objsOf(list...), first, idOf(list[0]))
	}
	for why, l := range notRightTreesAndCommits() {
		check(why, l, first)
		check(why, l, idOf(treeA))
	}
	for why, l := range notRightObjs() {
		check(why, l, idOf("abc"))
	}
	// Each object of these is needed, whatever refs name.
	g := mappedGraph(ternary(4, 2), nil, []int{0}, []int{1}, nil)
	for i, o := range g.objs {
		if o.Id != g.ids[2] && o.Id != g.ids[3] {
			check("one is gone", slices.Delete(slices.Clone(g.objs), i, i+1), g.ids...)
		}
	}
}

// What is promised, asked of the answers alone.
func TestSweepsKeepTheirPromise(t *testing.T) {
	for name, g := range graphs() {
		h := mappedGraph(ternary(len(g.parents), 5), g.parents...)
		for a := range h.ids {
			r := refsTo(h.ids[a], h.ids[(3*a+1)%len(h.ids)])
			reached := impl.Reached(h.objs, r)
			n, ok := impl.Swept(h.objs, r)
			if !ok || !impl.RepoOk(n) {
				t.Fatalf("%s: Swept tells %q, %v", name, n, ok)
			}
			for _, o := range h.objs {
				text, left := impl.Find(n, o.Id)
				if left != slices.Contains(reached, o.Id) || left && text != o.Text {
					t.Errorf("%s: %s is left: %v, as %q; reached are %q", name, o.Id, left, text, reached)
				}
			}
			for _, ref := range r {
				if !slices.Equal(impl.LogOf(n, ref.Id), impl.LogOf(h.objs, ref.Id)) {
					t.Errorf("%s: the log of %s is another one behind a sweep", name, ref.Id)
				}
			}
			if again, ok := impl.Swept(n, r); !ok || !slices.Equal(again, n) {
				t.Errorf("%s: swept again there is %q, not %q", name, again, n)
			}
		}
	}
}

func TestSweepCallsLeaveTheirArguments(t *testing.T) {
	g := mappedGraph(ternary(7, 4), crossing(3)...)
	for _, objs := range [][]impl.Obj{nil, g.objs, g.objs[1:], graphOf(chain(59, true)...).objs, objsOf("abc", "def")} {
		for _, refs := range [][]impl.Ref{nil, refsTo(g.ids...), refsTo(g.ids[6]), refsTo(g.ids[2], idLow), numberedRefs(20), numberedRefs(21)} {
			l, r := newRoomy(objs, spareObj), newRoomy(refs, spareRef)
			ids := impl.Reached(l.list(), r.list())
			spoil(ids, "spoilt")
			n, _ := impl.Swept(l.list(), r.list())
			spoil(n, spareObj)
			names := impl.Missing(l.list(), r.list())
			spoil(names, "spoilt")
			l.check(t, "a call of sweeps")
			r.check(t, "a call of sweeps")
		}
	}
}

func TestSweepCallsAnswerTheSameAgain(t *testing.T) {
	g := mappedGraph(ternary(9, 6), crossing(4)...)
	whole, less := refsTo(g.ids[7], g.ids[3]), refsTo(idLow, g.ids[5], idHigh)
	for range 20 {
		checkSweep(t, "again", g.objs, whole, g.part(7, 3))
		checkSweep(t, "again, some to none", g.objs, less, g.part(5), "r00", "r02")
		ids := impl.Reached(g.objs, whole)
		spoil(ids, "spoilt")
		n, _ := impl.Swept(g.objs, whole)
		spoil(n, spareObj)
		names := impl.Missing(g.objs, less)
		spoil(names, "spoilt")
	}
}

func TestSweepsLeaveNoGoroutines(t *testing.T) {
	g := graphOf(chain(20, true)...)
	for name, r := range map[string][]impl.Ref{
		"no refs": nil, "20 refs": refsTo(g.ids...), "the deepest first": refsTo(g.ids[19], g.ids[0], g.ids[19]),
		"refs to none": numberedRefs(20), "one to none": refsTo(g.ids[3], idLow), "not right": numberedRefs(21),
	} {
		checkGoroutines(t, name, func() {
			impl.Reached(g.objs, r)
			impl.Swept(g.objs, r)
			impl.Missing(g.objs, r)
		})
	}
}

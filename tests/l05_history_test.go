package tests

import (
	"slices"
	"testing"

	"loop.example/g00652/impl"
)

func TestRepoOk(t *testing.T) {
	first := commitText(idOf(treeA), "first")
	second := commitText(idOf(treeA), "second", idOf(first))
	third := commitText(idOf(treeB), "third", idOf(first))
	for name, list := range map[string][]string{
		"nothing":                 nil,
		"a tree alone":            {treeA},
		"a tree without pairs":    {"map\n"},
		"60 trees":                trees(60),
		"a commit":                {treeA, first},
		"a tree that none names":  {treeA, treeB, first},
		"one parent":              {treeA, first, second},
		"two parents":             {treeA, treeB, first, second, third, commitText(idOf(treeB), "both", parents(second, third)...)},
		"one behind the other":    {treeA, first, second, commitText(idOf(treeA), "both", parents(first, second)...)},
		"two without parents":     {treeA, first, commitText(idOf(treeA), "another start")},
		"60 with a commit or two": append(trees(57), treeA, first, second),
	} {
		if !impl.RepoOk(objsOf(list...)) {
			t.Errorf("%s: RepoOk tells false", name)
		}
	}
	for name, list := range notRightRepos() {
		if impl.RepoOk(objsOf(list...)) {
			t.Errorf("%s: RepoOk tells true", name)
		}
	}
	for name, l := range notRightObjs() {
		if impl.RepoOk(l) {
			t.Errorf("%s: RepoOk tells true", name)
		}
	}
}

func TestRepoOkWantsRightObjects(t *testing.T) {
	for name, l := range notRightTreesAndCommits() {
		if impl.RepoOk(l) {
			t.Errorf("%s: RepoOk tells true", name)
		}
	}
}

func TestRepoOkLeavesItsArgument(t *testing.T) {
	for _, l := range [][]impl.Obj{nil, objsOf(trees(60)...), objsOf("abc", "def")} {
		r := newRoomy(l, spareObj)
		impl.RepoOk(r.list())
		r.check(t, "RepoOk")
	}
}

func TestAncestorsAndIsAncestor(t *testing.T) {
	for name, g := range graphs() {
		behind := g.behind()
		for b := range g.ids {
			var places []int
			for a := range g.ids {
				if behind[b][a] {
					places = append(places, a)
				}
				if is := impl.IsAncestor(g.objs, g.ids[a], g.ids[b]); is != behind[b][a] {
					t.Errorf("%s: IsAncestor of %d, %d tells %v", name, a, b, is)
				}
			}
			if l := impl.Ancestors(g.objs, g.ids[b]); !slices.Equal(l, g.rising(places)) {
				t.Errorf("%s: Ancestors of %d tells %q", name, b, l)
			}
		}
	}
}

func TestBasesOf(t *testing.T) {
	for name, g := range graphs() {
		behind := g.behind()
		for a := range g.ids {
			for b := range g.ids {
				if l := impl.BasesOf(g.objs, g.ids[a], g.ids[b]); !slices.Equal(l, g.bases(behind, a, b)) {
					t.Errorf("%s: BasesOf %d, %d tells %q", name, a, b, l)
				}
			}
		}
	}
}

// The same, but with the answers written down.
func TestBasesOfNamedCommits(t *testing.T) {
	cross := [][]int{nil, {0}, {0}, {1, 2}, {1, 2}, {3, 4}, {3, 4}}
	for _, c := range []struct {
		name    string
		parents [][]int
		a, b    int
		want    []int
	}{
		{"a commit and itself", [][]int{nil}, 0, 0, []int{0}},
		{"one of two parents and itself", cross, 3, 3, []int{3}},
		{"a commit and its parent", [][]int{nil, {0}}, 1, 0, []int{0}},
		{"a commit and one far behind it", cross, 6, 0, []int{0}},
		{"two of one parent", cross, 1, 2, []int{0}},
		{"two that cross", cross, 3, 4, []int{1, 2}},
		{"two that cross again", cross, 5, 6, []int{3, 4}},
		{"nothing in common", [][]int{nil, {0}, nil, {2}}, 1, 3, nil},
		{"nothing in common until then", [][]int{nil, nil, {0, 1}, {1}}, 2, 3, []int{1}},
		{"the deeper of both in common is behind none", [][]int{nil, nil, {1}, {0, 2}, {0, 2}}, 3, 4, []int{0, 2}},
	} {
		g := graphOf(c.parents...)
		for _, pair := range [][2]int{{c.a, c.b}, {c.b, c.a}} {
			if l := impl.BasesOf(g.objs, g.ids[pair[0]], g.ids[pair[1]]); !slices.Equal(l, g.rising(c.want)) {
				t.Errorf("%s: BasesOf %v tells %q", c.name, pair, l)
			}
		}
	}
}

func TestDepthOfAndLogOf(t *testing.T) {
	for name, g := range graphs() {
		behind := g.behind()
		for at, want := range g.depths() {
			if depth := impl.DepthOf(g.objs, g.ids[at]); depth != want {
				t.Errorf("%s: DepthOf %d tells %d", name, at, depth)
			}
			if l := impl.LogOf(g.objs, g.ids[at]); !slices.Equal(l, g.log(behind, at)) {
				t.Errorf("%s: LogOf %d tells %q", name, at, l)
			}
		}
	}
}

func TestDepthOfTakesTheLongestWay(t *testing.T) {
	g := graphOf(nil, []int{0}, []int{1}, []int{0, 2}, []int{0, 3}, []int{0}, []int{4, 5})
	for at, want := range []int64{0, 1, 2, 3, 4, 1, 5} {
		if depth := impl.DepthOf(g.objs, g.ids[at]); depth != want {
			t.Errorf("DepthOf %d tells %d", at, depth)
		}
	}
	one, other := min(g.ids[1], g.ids[5]), max(g.ids[1], g.ids[5])
	want := []string{g.ids[6], g.ids[4], g.ids[3], g.ids[2], one, other, g.ids[0]}
	if l := impl.LogOf(g.objs, g.ids[6]); !slices.Equal(l, want) {
		t.Errorf("LogOf tells %q, not %q", l, want)
	}
}

func TestLogOfCommitsOfOneDepth(t *testing.T) {
	g := graphOf(halves(16)...)
	l := impl.LogOf(g.objs, g.ids[30])
	var want []string
	for _, row := range [][2]int{{30, 31}, {28, 30}, {24, 28}, {16, 24}, {0, 16}} {
		ids := slices.Clone(g.ids[row[0]:row[1]])
		slices.Sort(ids)
		want = append(want, ids...)
	}
	if !slices.Equal(l, want) {
		t.Errorf("LogOf tells %q, not %q", l, want)
	}
}

// What is promised, asked of the answers alone.
func TestHistoryKeepsItsPromise(t *testing.T) {
	for name, g := range graphs() {
		is := map[[2]string]bool{}
		for _, a := range g.ids {
			for _, b := range g.ids {
				is[[2]string{a, b}] = impl.IsAncestor(g.objs, a, b)
			}
		}
		for _, a := range g.ids {
			checkLog(t, name, impl.LogOf(g.objs, a), is)
			for _, b := range g.ids {
				bases := impl.BasesOf(g.objs, a, b)
				for _, c := range g.ids {
					if is[[2]string{c, a}] && is[[2]string{a, b}] && !is[[2]string{c, b}] {
						t.Errorf("%s: %s is behind %s, that behind %s, but not the first behind the last", name, c, a, b)
					}
					if is[[2]string{c, a}] && is[[2]string{c, b}] && !slices.ContainsFunc(bases, func(best string) bool { return is[[2]string{c, best}] }) {
						t.Errorf("%s: %s is behind %s and %s, but behind none of %q", name, c, a, b, bases)
					}
				}
				for _, best := range bases {
					if !is[[2]string{best, a}] || !is[[2]string{best, b}] {
						t.Errorf("%s: %s is not behind %s and %s", name, best, a, b)
					}
				}
			}
		}
	}
}

func checkLog(t *testing.T, name string, l []string, is map[[2]string]bool) {
	t.Helper()
	for i, ahead := range l {
		for _, later := range l[i+1:] {
			if ahead == later || is[[2]string{ahead, later}] {
				t.Errorf("%s: %s stands ahead of %s in a log", name, ahead, later)
			}
		}
	}
}

// 60 objects are a tree and 59 commits: with two parents each there are more
// ways through them than could ever be gone one by one.
func TestHistoryOfSixtyObjects(t *testing.T) {
	for name, g := range map[string]graph{"one parent": graphOf(chain(59, false)...), "two parents": graphOf(chain(59, true)...)} {
		if len(g.objs) != 60 {
			t.Fatalf("%s: there are %d objects", name, len(g.objs))
		}
		fallen := slices.Clone(g.ids)
		slices.Reverse(fallen)
		top, mid, start := g.ids[58], g.ids[30], g.ids[0]
		if l := impl.LogOf(g.objs, top); !slices.Equal(l, fallen) {
			t.Errorf("%s: LogOf tells %q", name, l)
		}
		sorted := slices.Sorted(slices.Values(g.ids))
		if l := impl.Ancestors(g.objs, top); !slices.Equal(l, sorted) {
			t.Errorf("%s: Ancestors tells %q", name, l)
		}
		if depth := impl.DepthOf(g.objs, top); depth != 58 {
			t.Errorf("%s: DepthOf tells %d", name, depth)
		}
		if !impl.IsAncestor(g.objs, start, top) || impl.IsAncestor(g.objs, top, start) {
			t.Errorf("%s: the first is not behind the last, or the last behind the first", name)
		}
		for _, l := range [][]string{impl.BasesOf(g.objs, top, mid), impl.BasesOf(g.objs, mid, top)} {
			if !slices.Equal(l, []string{mid}) {
				t.Errorf("%s: BasesOf tells %q", name, l)
			}
		}
	}
	wide := graphOf(make([][]int, 59)...)
	if l := impl.LogOf(wide.objs, wide.ids[58]); !slices.Equal(l, wide.ids[58:]) {
		t.Errorf("no parents: LogOf tells %q", l)
	}
	checkNoHistory(t, "61 objects", graphOf(chain(60, false)...).objs, graphOf(chain(60, false)...).ids)
}

// checkNoHistory asks that nothing is told of any of the ids.
func checkNoHistory(t *testing.T, name string, l []impl.Obj, ids []string) {
	t.Helper()
	for _, id := range ids {
		if n := impl.Ancestors(l, id); len(n) != 0 {
			t.Errorf("%s: Ancestors of %q tells %q", name, id, n)
		}
		if n := impl.LogOf(l, id); len(n) != 0 {
			t.Errorf("%s: LogOf %q tells %q", name, id, n)
		}
		if depth := impl.DepthOf(l, id); depth != -1 {
			t.Errorf("%s: DepthOf %q tells %d", name, id, depth)
		}
	}
	for i, a := range ids {
		for _, b := range []string{a, ids[0], ids[(i+1)%len(ids)]} {
			checkNothingInCommon(t, name, l, a, b)
		}
	}
}

func checkNothingInCommon(t *testing.T, name string, l []impl.Obj, a, b string) {
	t.Helper()
	if impl.IsAncestor(l, a, b) {
		t.Errorf("%s: IsAncestor of %q, %q tells true", name, a, b)
	}
	if n := impl.BasesOf(l, a, b); len(n) != 0 {
		t.Errorf("%s: BasesOf %q, %q tells %q", name, a, b, n)
	}
}

func TestHistoryOfNoCommits(t *testing.T) {
	g := graphOf(nil, []int{0}, []int{0}, []int{1, 2})
	checkNoHistory(t, "no commit", g.objs, noCommits())
	checkNoHistory(t, "no objects", nil, append(noCommits(), g.ids...))
	for _, id := range g.ids {
		for _, none := range noCommits() {
			checkNothingInCommon(t, "the first is no commit", g.objs, none, id)
			checkNothingInCommon(t, "the second is no commit", g.objs, id, none)
		}
	}
}

func TestHistoryOfObjectsThatAreNoRepository(t *testing.T) {
	first := idOf(commitText(idOf(treeA), "first"))
	for name, list := range notRightRepos() {
		checkNoHistory(t, name, objsOf(list...), []string{first, idOf(list[0]), idOf(treeA)})
	}
	for name, l := range notRightTreesAndCommits() {
		checkNoHistory(t, name, l, []string{first, idOf(treeA)})
	}
	for name, l := range notRightObjs() {
		checkNoHistory(t, name, l, []string{idOf("abc"), ""})
	}
	// Each object of these is needed; without it nothing is told, not even of others.
	g := graphOf(nil, []int{0}, []int{1}, nil)
	for i, o := range g.objs {
		if o.Id != g.ids[2] && o.Id != g.ids[3] {
			checkNoHistory(t, "one is gone", slices.Delete(slices.Clone(g.objs), i, i+1), g.ids)
		}
	}
}

func TestHistoryCallsLeaveTheirArguments(t *testing.T) {
	g := graphOf(crossing(3)...)
	for _, l := range [][]impl.Obj{nil, g.objs, graphOf(chain(59, true)...).objs, objsOf("abc", "def")} {
		r := newRoomy(l, spareObj)
		for _, a := range g.ids {
			impl.Ancestors(r.list(), a)
			impl.DepthOf(r.list(), a)
			impl.LogOf(r.list(), a)
			for _, b := range g.ids {
				impl.IsAncestor(r.list(), a, b)
				impl.BasesOf(r.list(), a, b)
			}
		}
		r.check(t, "a call of history")
	}
}

func TestHistoryCallsAnswerTheSameAgain(t *testing.T) {
	g := graphOf(crossing(4)...)
	behind := g.behind()
	for range 20 {
		l := impl.Ancestors(g.objs, g.ids[8])
		if !slices.Equal(l, g.rising([]int{0, 1, 2, 3, 4, 5, 6, 8})) {
			t.Errorf("Ancestors tells %q", l)
		}
		spoil(l, "spoilt")
		l = impl.LogOf(g.objs, g.ids[8])
		if !slices.Equal(l, g.log(behind, 8)) {
			t.Errorf("LogOf tells %q", l)
		}
		spoil(l, "spoilt")
		l = impl.BasesOf(g.objs, g.ids[7], g.ids[8])
		if !slices.Equal(l, g.rising([]int{5, 6})) {
			t.Errorf("BasesOf tells %q", l)
		}
		spoil(l, "spoilt")
	}
}

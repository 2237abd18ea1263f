package tests

import (
	"fmt"
	"slices"
	"strings"
	"testing"

	"loop.example/g00652/impl"
)

func rightRefs() map[string][]impl.Ref {
	return map[string][]impl.Ref{
		"none":              nil,
		"an empty list":     {},
		"one":               {{Name: "main", Id: idLow}},
		"a name of 1 byte":  {{Name: "0", Id: idLow}},
		"a name of 8 bytes": {{Name: "abcdefg9", Id: idHigh}},
		"digits ahead":      {{Name: "0", Id: idLow}, {Name: "9", Id: idLow}, {Name: "a", Id: idLow}, {Name: "z", Id: idLow}},
		"one starts others": {{Name: "a", Id: idHigh}, {Name: "a0", Id: idLow}, {Name: "aa", Id: idLow}},
		"ids fall":          {{Name: "a", Id: idHigh}, {Name: "b", Id: idMid}, {Name: "c", Id: idLow}},
		"ids alike":         {{Name: "a", Id: idMid}, {Name: "b", Id: idMid}},
		"19":                numberedRefs(19),
		"20":                numberedRefs(20),
	}
}

func TestRefsOk(t *testing.T) {
	for name, r := range rightRefs() {
		if !impl.RefsOk(r) {
			t.Errorf("%s: RefsOk tells false", name)
		}
	}
	for name, r := range notRightRefs() {
		if impl.RefsOk(r) {
			t.Errorf("%s: RefsOk tells true", name)
		}
	}
	if impl.MaxRefs != 20 {
		t.Errorf("MaxRefs is %d", impl.MaxRefs)
	}
}

func TestRefsOkOfEachByte(t *testing.T) {
	for b := range 256 {
		c := string([]byte{byte(b)})
		letter := b >= 'a' && b <= 'z' || b >= '0' && b <= '9'
		for _, name := range []string{c, "x" + c, "x" + c + "x", "abcdefg" + c} {
			if ok := impl.RefsOk([]impl.Ref{{Name: name, Id: idLow}}); ok != letter {
				t.Errorf("name %q: RefsOk tells %v", name, ok)
			}
			if _, ok := impl.SetRef(nil, name, idLow); ok != letter {
				t.Errorf("name %q: SetRef tells %v", name, ok)
			}
		}
		digit := b >= 'a' && b <= 'f' || b >= '0' && b <= '9'
		for at := range 16 {
			id := idLow[:at] + c + idLow[at+1:]
			if ok := impl.RefsOk([]impl.Ref{{Name: "main", Id: id}}); ok != digit {
				t.Errorf("id %q: RefsOk tells %v", id, ok)
			}
			if _, ok := impl.SetRef(nil, "main", id); ok != digit {
				t.Errorf("id %q: SetRef tells %v", id, ok)
			}
		}
	}
}

func idsOf(r []impl.Ref) map[string]string {
	ids := map[string]string{}
	for _, ref := range r {
		ids[ref.Name] = ref.Id
	}
	return ids
}

// refsFrom are the refs of a Go map, as they have to stand.
func refsFrom(ids map[string]string) []impl.Ref {
	var r []impl.Ref
	for _, p := range pairsOf(ids) {
		r = append(r, impl.Ref{Name: p.Key, Id: p.Val})
	}
	return r
}

// someNames are names of refs, some that are there in some of the right ones,
// and some that stand ahead of, between and behind them.
func someNames() []string {
	return []string{"0", "a", "a0", "aa", "main", "main2", "abcdefg9", "r00", "r005", "r07", "r19", "r20", "z", "zzzzzzzz"}
}

func wrongNames() []string {
	return []string{"", "Main", "main ", " main", "main56789", "ma-in", "a\n", "\x00", "\x80", "m\xc3\xa4in", strings.Repeat("a", 100000)}
}

func wrongIds() []string {
	return []string{"", "0", idLow[:15], idLow + "0", strings.ToUpper(idLow), idLow[:15] + "g", idLow[:15] + " ", " " + idLow[:15], "\n" + idLow[:15], strings.Repeat("0", 100000)}
}

func checkRefs(t *testing.T, call string, got []impl.Ref, ok bool, want map[string]string, right bool) {
	t.Helper()
	list := refsFrom(want)
	if !right {
		list = nil
	}
	if ok != right || !slices.Equal(got, list) {
		t.Errorf("%s tells %q, %v, not %q", call, got, ok, list)
	}
}

func TestRefOf(t *testing.T) {
	for name, r := range rightRefs() {
		ids := idsOf(r)
		for _, ref := range append(someNames(), wrongNames()...) {
			if id, ok := impl.RefOf(r, ref); ok != has(ids, ref) || id != ids[ref] {
				t.Errorf("%s: RefOf %.20q tells %q, %v", name, ref, id, ok)
			}
		}
	}
}

func TestSetRef(t *testing.T) {
	for name, r := range rightRefs() {
		for _, ref := range someNames() {
			for _, id := range []string{idLow, idHigh, idOf("7")} {
				ids := idsOf(r)
				ids[ref] = id
				n, ok := impl.SetRef(r, ref, id)
				checkRefs(t, fmt.Sprint(name, ": SetRef of ", ref), n, ok, ids, len(ids) <= 20)
			}
		}
	}
}

func TestDropRef(t *testing.T) {
	for name, r := range rightRefs() {
		for _, ref := range append(someNames(), wrongNames()...) {
			ids := idsOf(r)
			there := has(ids, ref)
			delete(ids, ref)
			n, ok := impl.DropRef(r, ref)
			checkRefs(t, fmt.Sprintf("%s: DropRef of %.20q", name, ref), n, ok, ids, there)
		}
	}
}

func TestSwapRef(t *testing.T) {
	for name, r := range rightRefs() {
		for _, ref := range someNames() {
			for _, old := range []string{"", idLow, idMid, idHigh, idOf("7"), "x", idLow[:15], strings.ToUpper(idLow), idLow + " "} {
				ids := idsOf(r)
				is := ids[ref] == old
				ids[ref] = idOf("19")
				n, ok := impl.SwapRef(r, ref, old, idOf("19"))
				checkRefs(t, fmt.Sprintf("%s: SwapRef of %s from %q", name, ref, old), n, ok, ids, is && len(ids) <= 20)
			}
		}
	}
}

// What is promised, asked of the answers alone.
func TestRefsKeepTheirPromise(t *testing.T) {
	for name, r := range rightRefs() {
		for _, ref := range someNames() {
			n, ok := impl.SetRef(r, ref, idMid)
			if !ok {
				continue
			}
			if !impl.RefsOk(n) {
				t.Errorf("%s: what SetRef tells is not right: %q", name, n)
			}
			for _, other := range someNames() {
				was, had := impl.RefOf(r, other)
				id, there := impl.RefOf(n, other)
				if other == ref && (id != idMid || !there) || other != ref && (id != was || there != had) {
					t.Errorf("%s: with %s set, %s was %q, %v and is %q, %v", name, ref, other, was, had, id, there)
				}
			}
			less, ok := impl.DropRef(n, ref)
			if _, there := impl.RefOf(less, ref); !ok || there || !impl.RefsOk(less) {
				t.Errorf("%s: %s is dropped, and there: %v", name, ref, there)
			}
		}
	}
}

func TestRefsAtTwenty(t *testing.T) {
	r := numberedRefs(20)
	for _, name := range []string{"a", "r005", "z"} {
		n, ok := impl.SetRef(r[:19], name, idLow)
		if !ok || len(n) != 20 || !slices.Contains(n, impl.Ref{Name: name, Id: idLow}) {
			t.Errorf("%s as 20th: SetRef tells %q, %v", name, n, ok)
		}
		if n, ok := impl.SetRef(r, name, idLow); ok || len(n) != 0 {
			t.Errorf("%s as 21st: SetRef tells %q, %v", name, n, ok)
		}
		if n, ok := impl.SwapRef(r[:19], name, "", idLow); !ok || len(n) != 20 {
			t.Errorf("%s as 20th: SwapRef tells %q, %v", name, n, ok)
		}
		if n, ok := impl.SwapRef(r, name, "", idLow); ok || len(n) != 0 {
			t.Errorf("%s as 21st: SwapRef tells %q, %v", name, n, ok)
		}
	}
	for i, ref := range r {
		want := slices.Clone(r)
		want[i].Id = idMid
		if n, ok := impl.SetRef(r, ref.Name, idMid); !ok || !slices.Equal(n, want) {
			t.Errorf("%s of 20: SetRef tells %q, %v", ref.Name, n, ok)
		}
		if n, ok := impl.SwapRef(r, ref.Name, ref.Id, idMid); !ok || !slices.Equal(n, want) {
			t.Errorf("%s of 20: SwapRef tells %q, %v", ref.Name, n, ok)
		}
		if n, ok := impl.DropRef(r, ref.Name); !ok || !slices.Equal(n, slices.Delete(want, i, i+1)) {
			t.Errorf("%s of 20: DropRef tells %q, %v", ref.Name, n, ok)
		}
	}
}

func TestSwapRefFromNone(t *testing.T) {
	r := []impl.Ref{{Name: "main", Id: idLow}}
	for _, c := range []struct {
		name, ref, old, id string
		want               []impl.Ref
	}{
		{"a new name, from none", "dev", "", idHigh, []impl.Ref{{Name: "dev", Id: idHigh}, {Name: "main", Id: idLow}}},
		{"a name that is there, from none", "main", "", idHigh, nil},
		{"a new name, from another id", "dev", idLow, idHigh, nil},
		{"a name that is there, from its id", "main", idLow, idHigh, []impl.Ref{{Name: "main", Id: idHigh}}},
		{"from its id to that", "main", idLow, idLow, []impl.Ref{{Name: "main", Id: idLow}}},
		{"from another id", "main", idHigh, idHigh, nil},
		{"from another id to its own", "main", idHigh, idLow, nil},
	} {
		if n, ok := impl.SwapRef(r, c.ref, c.old, c.id); ok != (c.want != nil) || !slices.Equal(n, c.want) {
			t.Errorf("%s: SwapRef tells %q, %v", c.name, n, ok)
		}
	}
	if n, ok := impl.SwapRef(nil, "main", "", idLow); !ok || !slices.Equal(n, r) {
		t.Errorf("no refs: SwapRef tells %q, %v", n, ok)
	}
}

func TestRefCallsRefuseNamesAndIdsThatAreNone(t *testing.T) {
	g := graphOf(nil, []int{0})
	for _, r := range [][]impl.Ref{nil, {{Name: "main", Id: g.ids[0]}}, numberedRefs(19)} {
		was, _ := impl.RefOf(r, "main")
		for _, name := range wrongNames() {
			checkRefused(t, fmt.Sprintf("name %.20q", name), g.objs, r, name, "", g.ids[1])
		}
		for _, id := range wrongIds() {
			checkRefused(t, fmt.Sprintf("id %.20q", id), g.objs, r, "main", was, id)
			checkRefused(t, fmt.Sprintf("a new name, id %.20q", id), g.objs, r, "dev", "", id)
		}
	}
}

// checkRefused asks that the ref can be neither set, swapped nor put forward.
func checkRefused(t *testing.T, why string, l []impl.Obj, r []impl.Ref, name, old, id string) {
	t.Helper()
	if n, ok := impl.SetRef(r, name, id); ok || len(n) != 0 {
		t.Errorf("%s: SetRef tells %q, %v", why, n, ok)
	}
	if n, ok := impl.SwapRef(r, name, old, id); ok || len(n) != 0 {
		t.Errorf("%s: SwapRef tells %q, %v", why, n, ok)
	}
	if n, ok := impl.Forward(l, r, name, id); ok || len(n) != 0 {
		t.Errorf("%s: Forward tells %q, %v", why, n, ok)
	}
}

// Some of these would be right with what is set, or without what is dropped.
func TestRefCallsRefuseRefsThatAreNotRight(t *testing.T) {
	g := graphOf(nil, []int{0})
	for why, r := range notRightRefs() {
		for _, name := range []string{"main", "new", "zoo", "a", "", "Main", "main56789"} {
			for _, id := range []string{g.ids[0], g.ids[1], idMid} {
				for _, old := range []string{"", idMid, idLow} {
					checkRefused(t, why, g.objs, r, name, old, id)
				}
			}
			if id, ok := impl.RefOf(r, name); ok || id != "" {
				t.Errorf("%s: RefOf %q tells %q, %v", why, name, id, ok)
			}
			if n, ok := impl.DropRef(r, name); ok || len(n) != 0 {
				t.Errorf("%s: DropRef of %q tells %q, %v", why, name, n, ok)
			}
		}
	}
}

func TestForwardOfAllGraphs(t *testing.T) {
	for name, g := range graphs() {
		behind := g.behind()
		for from := range g.ids {
			// Others may name what is no commit.
			r := []impl.Ref{{Name: "a", Id: g.ids[0]}, {Name: "main", Id: g.ids[from]}, {Name: "z", Id: idMid}}
			for to := range g.ids {
				n, ok := impl.Forward(g.objs, r, "main", g.ids[to])
				ids := idsOf(r)
				ids["main"] = g.ids[to]
				checkRefs(t, fmt.Sprint(name, ": Forward from ", from, " to ", to), n, ok, ids, behind[to][from])
				if was, _ := impl.RefOf(r, "main"); ok && !impl.IsAncestor(g.objs, was, n[1].Id) {
					t.Errorf("%s: Forward goes from %d to %d", name, from, to)
				}
			}
		}
	}
}

// The answers are written down here.
func TestForward(t *testing.T) {
	g := graphOf(nil, []int{0}, []int{0}, []int{1, 2}, nil)
	for _, c := range []struct {
		name     string
		from, to int
		want     bool
	}{
		{"to itself", 1, 1, true},
		{"to a child", 0, 1, true},
		{"to a child's child", 0, 3, true},
		{"to a merger", 2, 3, true},
		{"back", 1, 0, false},
		{"far back", 3, 0, false},
		{"aside", 1, 2, false},
		{"to nothing in common", 3, 4, false},
	} {
		r := []impl.Ref{{Name: "dev", Id: g.ids[c.to]}, {Name: "main", Id: g.ids[c.from]}}
		want := []impl.Ref{r[0], {Name: "main", Id: g.ids[c.to]}}
		if !c.want {
			want = nil
		}
		if n, ok := impl.Forward(g.objs, r, "main", g.ids[c.to]); ok != c.want || !slices.Equal(n, want) {
			t.Errorf("%s: Forward tells %q, %v", c.name, n, ok)
		}
	}
}

func TestForwardOfANewName(t *testing.T) {
	g := graphOf(nil, []int{0}, nil)
	for _, id := range g.ids {
		if n, ok := impl.Forward(g.objs, nil, "main", id); !ok || !slices.Equal(n, []impl.Ref{{Name: "main", Id: id}}) {
			t.Errorf("no refs: Forward tells %q, %v", n, ok)
		}
		ids := idsOf(numberedRefs(19))
		ids["main"] = id
		n, ok := impl.Forward(g.objs, numberedRefs(19), "main", id)
		checkRefs(t, "19 refs: Forward", n, ok, ids, true)
		if n, ok := impl.Forward(g.objs, numberedRefs(20), "main", id); ok || len(n) != 0 {
			t.Errorf("20 refs: Forward tells %q, %v", n, ok)
		}
		full := append([]impl.Ref{{Name: "main", Id: g.ids[0]}}, numberedRefs(19)...)
		n, ok = impl.Forward(g.objs, full, "main", id)
		checkRefs(t, "20 with it: Forward", n, ok, ids, id != g.ids[2])
	}
}

// What the ref names need be no commit of l; nothing goes on from there.
func TestForwardFromOrToNoCommit(t *testing.T) {
	g := graphOf(nil, []int{0})
	for _, none := range append(noCommits(), idLow, idOf(treeA)) {
		if n, ok := impl.Forward(g.objs, nil, "main", none); ok || len(n) != 0 {
			t.Errorf("Forward of a new name to %q tells %q, %v", none, n, ok)
		}
		for _, id := range g.ids {
			if n, ok := impl.Forward(g.objs, []impl.Ref{{Name: "main", Id: id}}, "main", none); ok || len(n) != 0 {
				t.Errorf("Forward to %q tells %q, %v", none, n, ok)
			}
			if n, ok := impl.Forward(g.objs, []impl.Ref{{Name: "main", Id: none}}, "main", id); ok || len(n) != 0 {
				t.Errorf("Forward from %q tells %q, %v", none, n, ok)
			}
		}
		if n, ok := impl.Forward(g.objs, []impl.Ref{{Name: "main", Id: none}}, "main", none); ok || len(n) != 0 {
			t.Errorf("Forward from %q to itself tells %q, %v", none, n, ok)
		}
	}
}

func TestForwardRefusesWhatIsNoRepository(t *testing.T) {
	first := idOf(commitText(idOf(treeA), "first"))
	check := func(name string, l []impl.Obj, id string) {
		t.Helper()
		for _, r := range [][]impl.Ref{nil, {{Name: "main", Id: id}}, {{Name: "dev", Id: id}}} {
			if n, ok := impl.Forward(l, r, "main", id); ok || len(n) != 0 {
				t.Errorf("%s: Forward tells %q, %v", name, n, ok)
			}
		}
	}
	check("no objects", nil, first)
	for name, list := range notRightRepos() {
		check(name, objsOf(list...), first)
		check(name, objsOf(list...), idOf(list[0]))
	}
	for name, l := range notRightTreesAndCommits() {
		check(name, l, first)
	}
	for name, l := range notRightObjs() {
		check(name, l, idOf("abc"))
	}
	check("61 objects", graphOf(chain(60, false)...).objs, graphOf(chain(60, false)...).ids[3])
	if _, ok := impl.Forward(objsOf(treeA, commitText(idOf(treeA), "first")), nil, "main", first); !ok {
		t.Error("a repository: Forward tells false")
	}
}

func TestRefCallsLeaveTheirArguments(t *testing.T) {
	g := graphOf(crossing(2)...)
	lists := [][]impl.Ref{nil, numberedRefs(20), numberedRefs(21), {{Name: "main", Id: g.ids[0]}}, {{Name: "dev", Id: g.ids[3]}, {Name: "main", Id: g.ids[1]}}, {{Name: "main", Id: idLow}, {Name: "dev", Id: idLow}}}
	for _, list := range lists {
		for _, name := range []string{"main", "dev", "a", "r07", "zoo", ""} {
			r, l := newRoomy(list, spareRef), newRoomy(g.objs, spareObj)
			impl.RefsOk(r.list())
			was, _ := impl.RefOf(r.list(), name)
			for _, id := range append(slices.Clone(g.ids), idLow, "") {
				n, _ := impl.SetRef(r.list(), name, id)
				spoil(n, spareRef)
				n, _ = impl.SwapRef(r.list(), name, was, id)
				spoil(n, spareRef)
				n, _ = impl.DropRef(r.list(), name)
				spoil(n, spareRef)
				n, _ = impl.Forward(l.list(), r.list(), name, id)
				spoil(n, spareRef)
			}
			r.check(t, "a call of refs")
			l.check(t, "Forward")
		}
	}
}

func TestRefCallsAnswerTheSameAgain(t *testing.T) {
	g := graphOf(nil, []int{0})
	r := []impl.Ref{{Name: "dev", Id: g.ids[1]}, {Name: "main", Id: g.ids[0]}}
	want := []impl.Ref{r[0], {Name: "main", Id: g.ids[1]}}
	for range 20 {
		for name, call := range map[string]func() ([]impl.Ref, bool){
			"SetRef":  func() ([]impl.Ref, bool) { return impl.SetRef(r, "main", g.ids[1]) },
			"SwapRef": func() ([]impl.Ref, bool) { return impl.SwapRef(r, "main", g.ids[0], g.ids[1]) },
			"Forward": func() ([]impl.Ref, bool) { return impl.Forward(g.objs, r, "main", g.ids[1]) },
		} {
			n, ok := call()
			if !ok || !slices.Equal(n, want) {
				t.Errorf("%s tells %q, %v", name, n, ok)
			}
			spoil(n, spareRef)
		}
		n, ok := impl.DropRef(r, "dev")
		if !ok || !slices.Equal(n, r[1:]) {
			t.Errorf("DropRef tells %q, %v", n, ok)
		}
		spoil(n, spareRef)
	}
}

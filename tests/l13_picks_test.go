package tests

import (
	"fmt"
	"slices"
	"strings"
	"testing"

	"loop.example/g00652/impl"
)

// pickAt is what a commit did, as the document has it.
func (g graph) pickAt(t *testing.T, at int) []impl.Change {
	t.Helper()
	was, now := g.around(t, at)
	return diffBetween(was, now)
}

// around are the map of a commit's first parent and its own.
func (g graph) around(t *testing.T, at int) (was, now []impl.Pair) {
	t.Helper()
	if places := g.parentsAt(at); len(places) > 0 {
		was = pairs(t, g.maps[places[0]])
	}
	return was, pairs(t, g.maps[at])
}

// committed has one more commit, of what comes of changes, with the only parent last.
func committed(texts []string, m []impl.Pair, changes []impl.Change, last, note string) ([]string, []impl.Pair, string, bool) {
	n, ok := appliedTo(m, changes)
	if !ok {
		return nil, nil, "", false
	}
	text := commitText(idOf(treeOf(n)), note, last)
	texts = append(slices.Clone(texts), treeOf(n), text)
	return texts, n, idOf(text), len(objsOf(texts...)) <= 60
}

// rebasedAt is Rebased as the document has it, of commits by their places; of
// one place it is Picked.
func (g graph) rebasedAt(t *testing.T, onto int, places ...int) ([]impl.Obj, string, bool) {
	t.Helper()
	if len(places) > 20 {
		return nil, "", false
	}
	texts, m, last, ok := g.texts, pairs(t, g.maps[onto]), g.ids[onto], true
	for _, at := range places {
		texts, m, last, ok = committed(texts, m, g.pickAt(t, at), last, g.noteAt(at))
		if !ok {
			return nil, "", false
		}
	}
	return objsOf(texts...), last, true
}

func (g graph) revertedAt(t *testing.T, onto, at int) ([]impl.Obj, string, bool) {
	t.Helper()
	was, now := g.around(t, at)
	texts, _, last, ok := committed(g.texts, pairs(t, g.maps[onto]), diffBetween(now, was), g.ids[onto], "revert")
	if !ok {
		return nil, "", false
	}
	return objsOf(texts...), last, true
}

// answer is what Picked, Reverted or Rebased tells.
type answer struct {
	l  []impl.Obj
	id string
	ok bool
}

func answerOf(l []impl.Obj, id string, ok bool) answer { return answer{l, id, ok} }

func (a answer) check(t *testing.T, call string, want answer) {
	t.Helper()
	if a.ok != want.ok || a.id != want.id || !slices.Equal(a.l, want.l) {
		t.Errorf("%s tells %q, %q, %v, not %q, %q, %v", call, a.l, a.id, a.ok, want.l, want.id, want.ok)
	}
	if a.ok && !impl.RepoOk(a.l) {
		t.Errorf("%s tells what is no repository: %q", call, a.l)
	}
}

// checkMap asks for the map, the only parent and the note of what is told.
func (a answer) checkMap(t *testing.T, call, text, parent, note string) {
	t.Helper()
	m, there := impl.MapAt(a.l, a.id)
	c, _ := impl.CommitAt(a.l, a.id)
	if !a.ok || !there || impl.MapText(m) != text || !slices.Equal(c.Parents, []string{parent}) || c.Note != note {
		t.Errorf("%s tells a commit %q of %q, %v, not of %q, %q, %q", call, c, m, a.ok, text, parent, note)
	}
}

func checkPickOf(t *testing.T, name string, g graph, at int) {
	t.Helper()
	if l, ok := impl.PickOf(g.objs, g.ids[at]); !ok || !slices.Equal(l, g.pickAt(t, at)) {
		t.Errorf("%s: PickOf %d tells %v, %v, not %v", name, at, l, ok, g.pickAt(t, at))
	}
}

// checkPicked tells whether Picked is true; so does checkReverted.
func checkPicked(t *testing.T, name string, g graph, onto, at int) bool {
	t.Helper()
	want := answerOf(g.rebasedAt(t, onto, at))
	call := fmt.Sprintf("%s: Picked onto %d of %d", name, onto, at)
	answerOf(impl.Picked(g.objs, g.ids[onto], g.ids[at])).check(t, call, want)
	return want.ok
}

func checkReverted(t *testing.T, name string, g graph, onto, at int) bool {
	t.Helper()
	want := answerOf(g.revertedAt(t, onto, at))
	call := fmt.Sprintf("%s: Reverted onto %d of %d", name, onto, at)
	answerOf(impl.Reverted(g.objs, g.ids[onto], g.ids[at])).check(t, call, want)
	return want.ok
}

func checkRebased(t *testing.T, name string, g graph, onto int, places ...int) bool {
	t.Helper()
	want := answerOf(g.rebasedAt(t, onto, places...))
	call := fmt.Sprintf("%s: Rebased onto %d of %v", name, onto, places)
	answerOf(impl.Rebased(g.objs, g.ids[onto], g.idsAt(places))).check(t, call, want)
	return want.ok
}

func TestPicksOfAllGraphs(t *testing.T) {
	picked, reverted := map[bool]int{}, map[bool]int{}
	for name, g := range graphs() {
		h := mappedGraph(ternary(len(g.parents), 3), g.parents...)
		for at := range h.ids {
			checkPickOf(t, name, h, at)
			for onto := range h.ids {
				picked[checkPicked(t, name, h, onto, at)]++
				reverted[checkReverted(t, name, h, onto, at)]++
			}
		}
	}
	if min(picked[true], picked[false], reverted[true], reverted[false]) < 100 {
		t.Errorf("too few are told true or false: %v picked, %v reverted", picked, reverted)
	}
}

// What is promised, asked of the answers alone.
func TestPicksKeepTheirPromise(t *testing.T) {
	for name, g := range graphs() {
		h := mappedGraph(ternary(len(g.parents), 5), g.parents...)
		for _, id := range h.ids {
			c, _ := impl.CommitAt(h.objs, id)
			own, _ := impl.MapAt(h.objs, id)
			if len(c.Parents) > 0 {
				a := answerOf(impl.Picked(h.objs, c.Parents[0], id))
				a.checkMap(t, name+": Picked onto its first parent", impl.MapText(own), c.Parents[0], c.Note)
			}
			for i := 0; i < len(h.ids); i += 1 + len(h.ids)/8 {
				checkThereAndBack(t, name, h.objs, h.ids[i], id)
			}
		}
	}
}

// checkThereAndBack asks for the map of onto behind a pick and its reversal,
// and behind a reversal and its pick.
func checkThereAndBack(t *testing.T, name string, l []impl.Obj, onto, id string) {
	t.Helper()
	m, _ := impl.MapAt(l, onto)
	c, _ := impl.CommitAt(l, id)
	was := impl.MapText(m)
	if n, there, ok := impl.Picked(l, onto, id); ok {
		answerOf(impl.Reverted(n, there, id)).checkMap(t, name+": Reverted what was picked", was, there, "revert")
		answerOf(impl.Reverted(n, there, there)).checkMap(t, name+": Reverted the pick itself", was, there, "revert")
	}
	if n, there, ok := impl.Reverted(l, onto, id); ok {
		answerOf(impl.Picked(n, there, id)).checkMap(t, name+": Picked what was reverted", was, there, c.Note)
		answerOf(impl.Reverted(n, there, there)).checkMap(t, name+": Reverted the reversal", was, there, "revert")
	}
}

// The answers are written down here, as DiffText has them.
func TestPickOfNamedCommits(t *testing.T) {
	for _, c := range []struct{ name, was, now, want string }{
		{"the same map", "a=1\n", "a=1\n", ""},
		{"no pairs, as before", "", "", ""},
		{"one is put in", "a=1\n", "a=1\nb=1\n", "+b=1\n"},
		{"one is dropped", "a=1\nb=1\n", "b=1\n", "-a=1\n"},
		{"one is turned", "a=1\n", "a=2\n", "-a=1\n+a=2\n"},
		{"an empty value is put in", "", "a=\n", "+a=\n"},
		{"a value is emptied", "a=1\n", "a=\n", "-a=1\n+a=\n"},
		{"all at once", "a=1\nb=1\nc=1\n", "b=2\nc=1\nd=1\n", "-a=1\n-b=1\n+b=2\n+d=1\n"},
	} {
		g := mappedGraph([]string{"z=1\n", c.was, c.now}, nil, []int{0}, []int{1})
		if l, ok := impl.PickOf(g.objs, g.ids[2]); !ok || impl.DiffText(l) != c.want {
			t.Errorf("%s: PickOf tells %v, %v", c.name, l, ok)
		}
	}
	for text, want := range map[string]string{"": "", "a=\n": "+a=\n", "a=1\nb=2\n": "+a=1\n+b=2\n"} {
		// Another one without parents is none of its parents.
		g := mappedGraph([]string{"a=1\n", text, ""}, nil, nil, []int{1})
		if l, ok := impl.PickOf(g.objs, g.ids[1]); !ok || impl.DiffText(l) != want {
			t.Errorf("%q without parents: PickOf tells %v, %v", text, l, ok)
		}
	}
}

// Which of the parents has the lower id is by chance, so both ways are gone.
func TestPicksOfMergers(t *testing.T) {
	first := map[int]int{}
	for i := range 20 {
		n := fmt.Sprintf("n=%d\n", i)
		g := mappedGraph([]string{n, "a=1\n" + n, "b=1\n" + n, "a=1\nb=1\nc=1\n" + n, "a=1\nb=1\nc=1\n" + n}, nil, []int{0}, []int{0}, []int{1, 2}, []int{3})
		at, other := 1, 2
		diff, gone, left := "+b=1\n+c=1\n", "a=1\n"+n, "b=1\nc=1\n"+n
		if g.ids[2] < g.ids[1] {
			at, other = 2, 1
			diff, gone, left = "+a=1\n+c=1\n", "b=1\n"+n, "a=1\nc=1\n"+n
		}
		first[at]++
		if l, ok := impl.PickOf(g.objs, g.ids[3]); !ok || impl.DiffText(l) != diff {
			t.Errorf("%d: PickOf a merger tells %v, %v", i, l, ok)
		}
		answerOf(impl.Picked(g.objs, g.ids[at], g.ids[3])).checkMap(t, "Picked onto its first parent", g.maps[3], g.ids[at], "commit 3")
		answerOf(impl.Reverted(g.objs, g.ids[3], g.ids[3])).checkMap(t, "Reverted at once", gone, g.ids[3], "revert")
		answerOf(impl.Reverted(g.objs, g.ids[4], g.ids[3])).checkMap(t, "Reverted later on", gone, g.ids[4], "revert")
		answerOf(impl.Picked(g.objs, g.ids[0], g.ids[3])).checkMap(t, "Picked onto the start", left, g.ids[0], "commit 3")
		// The second parent has already what the merger has unlike its first.
		answerOf(impl.Picked(g.objs, g.ids[other], g.ids[3])).check(t, "Picked onto its second parent", answer{})
		answerOf(impl.Reverted(g.objs, g.ids[other], g.ids[3])).check(t, "Reverted onto its second parent", answer{})
	}
	if first[1] == 0 || first[2] == 0 {
		t.Errorf("the parents stand one way alone: %v", first)
	}
}

// The answers are written down here: the map that comes of it, or no.
func TestPickedAndRevertedOfNamedCommits(t *testing.T) {
	for _, c := range []struct{ name, was, now, onto, picked, reverted string }{
		{"one is put in", "a=1\n", "a=1\nb=1\n", "a=2\n", "a=2\nb=1\n", "no"},
		{"one is put in that is there", "a=1\n", "a=1\nb=1\n", "b=1\n", "no", ""},
		{"one is put in that is there with another value", "", "b=1\n", "b=2\n", "no", "no"},
		{"one is put in that is there empty", "", "b=1\n", "b=\n", "no", "no"},
		{"an empty one is put in", "", "b=\n", "a=1\n", "a=1\nb=\n", "no"},
		{"an empty one is put in that is there", "", "b=\n", "b=\n", "no", ""},
		{"one is dropped", "a=1\nb=1\n", "b=1\n", "a=1\nc=1\n", "c=1\n", "no"},
		{"one is dropped that is not there", "a=1\n", "", "c=1\n", "no", "a=1\nc=1\n"},
		{"one is dropped that has another value", "a=1\n", "", "a=2\n", "no", "no"},
		{"one is turned", "a=1\n", "a=2\n", "a=1\nb=1\n", "a=2\nb=1\n", "no"},
		{"one is turned that is so already", "a=1\n", "a=2\n", "a=2\nb=1\n", "no", "a=1\nb=1\n"},
		{"one is turned that is not there", "a=1\n", "a=2\n", "b=1\n", "no", "no"},
		{"one is turned that is otherwise", "a=1\n", "a=2\n", "a=3\n", "no", "no"},
		{"one of two does not fit", "a=1\n", "a=2\nb=1\n", "a=1\nb=1\n", "no", "no"},
		{"nothing is done", "a=1\n", "a=1\n", "b=1\n", "b=1\n", "b=1\n"},
		{"nothing is done to nothing", "", "", "", "", ""},
		{"all at once", "a=1\nb=1\nc=1\n", "b=2\nc=1\nd=1\n", "a=1\nb=1\ne=1\n", "b=2\nd=1\ne=1\n", "no"},
	} {
		g := mappedGraph([]string{c.was, c.now, c.onto}, nil, []int{0}, nil)
		if c.picked == "no" {
			answerOf(impl.Picked(g.objs, g.ids[2], g.ids[1])).check(t, c.name+": Picked", answer{})
		} else {
			answerOf(impl.Picked(g.objs, g.ids[2], g.ids[1])).checkMap(t, c.name+": Picked", c.picked, g.ids[2], "commit 1")
		}
		if c.reverted == "no" {
			answerOf(impl.Reverted(g.objs, g.ids[2], g.ids[1])).check(t, c.name+": Reverted", answer{})
		} else {
			answerOf(impl.Reverted(g.objs, g.ids[2], g.ids[1])).checkMap(t, c.name+": Reverted", c.reverted, g.ids[2], "revert")
		}
		answerOf(impl.Reverted(g.objs, g.ids[1], g.ids[1])).checkMap(t, c.name+": Reverted at once", c.was, g.ids[1], "revert")
		checkPicked(t, c.name, g, 2, 1)
		checkReverted(t, c.name, g, 2, 1)
	}
}

func TestPicksOfCommitsWithoutParents(t *testing.T) {
	g := mappedGraph([]string{"a=1\nb=2\n", "c=3\n", "b=2\nc=3\n", ""}, nil, nil, nil, nil)
	for _, c := range []struct {
		onto, id         int
		picked, reverted string
	}{
		{1, 0, "a=1\nb=2\nc=3\n", "no"},
		{0, 1, "a=1\nb=2\nc=3\n", "no"},
		{2, 0, "no", "no"},
		{2, 1, "no", "b=2\n"},
		{0, 0, "no", ""},
		{3, 3, "", ""},
		{3, 0, "a=1\nb=2\n", "no"},
		{0, 3, "a=1\nb=2\n", "a=1\nb=2\n"},
	} {
		for _, call := range []struct {
			name, want, note string
			told             answer
		}{
			{"Picked", c.picked, fmt.Sprint("commit ", c.id), answerOf(impl.Picked(g.objs, g.ids[c.onto], g.ids[c.id]))},
			{"Reverted", c.reverted, "revert", answerOf(impl.Reverted(g.objs, g.ids[c.onto], g.ids[c.id]))},
		} {
			name := fmt.Sprint(call.name, " onto ", c.onto, " of ", c.id)
			if call.want == "no" {
				call.told.check(t, name, answer{})
				continue
			}
			call.told.checkMap(t, name, call.want, g.ids[c.onto], call.note)
		}
	}
}

// With one parent it is that very commit; nothing is added.
func TestPickedOntoTheOnlyParent(t *testing.T) {
	g := mappedGraph([]string{"a=1\n", "b=1\n", "b=1\n"}, nil, []int{0}, []int{1})
	for at := 1; at < 3; at++ {
		want := answer{g.objs, g.ids[at], true}
		answerOf(impl.Picked(g.objs, g.ids[at-1], g.ids[at])).check(t, "Picked onto its parent", want)
		answerOf(impl.Rebased(g.objs, g.ids[at-1], g.ids[at:at+1])).check(t, "Rebased onto its parent", want)
	}
	answerOf(impl.Rebased(g.objs, g.ids[0], g.ids[1:])).check(t, "Rebased onto the start", answer{g.objs, g.ids[2], true})
	// Onto itself it goes only when it did nothing.
	answerOf(impl.Picked(g.objs, g.ids[1], g.ids[1])).check(t, "Picked onto itself", answer{})
	answerOf(impl.Picked(g.objs, g.ids[2], g.ids[2])).checkMap(t, "Picked onto itself", "b=1\n", g.ids[2], "commit 2")
}

func TestPicksKeepNotes(t *testing.T) {
	first := commitText(idOf(treeA), "first")
	for _, note := range []string{"", " ", "revert", "\x20\x7e", strings.Repeat("~", 40)} {
		other := commitText(idOf(treeB), note)
		l := objsOf(treeA, treeB, first, other)
		answerOf(impl.Picked(l, idOf(first), idOf(other))).checkMap(t, "Picked", "a=1\nb=2\n", idOf(first), note)
		answerOf(impl.Rebased(l, idOf(first), parents(other))).checkMap(t, "Rebased", "a=1\nb=2\n", idOf(first), note)
		answerOf(impl.Reverted(l, idOf(other), idOf(other))).checkMap(t, "Reverted", "", idOf(other), "revert")
	}
}

func TestPicksAtFortyPairs(t *testing.T) {
	text := func(m []impl.Pair) string { return strings.TrimPrefix(treeOf(m), "map\n") }
	for _, c := range []struct {
		name           string
		was, now, onto []impl.Pair
		picked, back   bool
	}{
		{"40 come of 39", nil, lettered(1, "a"), numbered(39), true, false},
		{"41 come of 40", nil, lettered(1, "a"), numbered(40), false, false},
		{"40 come of none", nil, numbered(40), nil, true, false},
		{"80 come of 40", nil, lettered(40, "a"), numbered(40), false, false},
		{"40 others come of 40", numbered(40), lettered(40, "a"), numbered(40), true, false},
		{"none come of 40", numbered(40), nil, numbered(40), true, false},
		{"40 come of none, reverted", numbered(40), nil, nil, false, true},
		{"41 come of 40, reverted", lettered(1, "a"), nil, numbered(40), false, false},
		{"40 come of 39, reverted", lettered(1, "a"), nil, numbered(39), false, true},
	} {
		g := mappedGraph([]string{text(c.was), text(c.now), text(c.onto)}, nil, []int{0}, nil)
		if picked, back := checkPicked(t, c.name, g, 2, 1), checkReverted(t, c.name, g, 2, 1); picked != c.picked || back != c.back {
			t.Errorf("%s: there is one picked, %v, and one reverted, %v", c.name, picked, back)
		}
		checkRebased(t, c.name, g, 2, 1)
		checkPickOf(t, c.name, g, 1)
	}
}

func TestPicksAtSixtyObjects(t *testing.T) {
	start, one, other := commitText(idOf("map\n"), "0"), commitText(idOf(treeA), "1"), commitText(idOf(treeB), "2")
	have := []string{"map\n", treeA, treeB, start, one, other}
	tree := "map\na=1\nb=2\n"
	pick := commitText(idOf(tree), "2", idOf(one))
	back := commitText(idOf("map\n"), "revert", idOf(one))
	for _, c := range []struct {
		name     string
		more     []string
		picks    bool
		reverses bool
	}{
		{"58", trees(52), true, true},
		{"59", trees(53), false, true},
		{"60", trees(54), false, false},
		{"59 with the tree", append(trees(52), tree), true, true},
		{"60 with the tree", append(trees(53), tree), false, false},
		{"60 with the pick", append(trees(52), tree, pick), true, false},
		{"60 with the reversal", append(trees(53), back), false, true},
	} {
		all := append(slices.Clone(have), c.more...)
		l := objsOf(all...)
		var picked, reverted answer
		if c.picks {
			picked = answer{objsOf(append(slices.Clone(all), tree, pick)...), idOf(pick), true}
		}
		if c.reverses {
			reverted = answer{objsOf(append(slices.Clone(all), back)...), idOf(back), true}
		}
		answerOf(impl.Picked(l, idOf(one), idOf(other))).check(t, c.name+": Picked", picked)
		answerOf(impl.Rebased(l, idOf(one), parents(other))).check(t, c.name+": Rebased", picked)
		answerOf(impl.Reverted(l, idOf(one), idOf(one))).check(t, c.name+": Reverted", reverted)
		// What adds nothing needs no room.
		answerOf(impl.Rebased(l, idOf(one), nil)).check(t, c.name+": Rebased of none", answer{l, idOf(one), true})
		if changes, ok := impl.PickOf(l, idOf(one)); !ok || len(changes) != 1 {
			t.Errorf("%s: PickOf tells %v, %v", c.name, changes, ok)
		}
	}
}

// Of two texts of one id just one can be there.
func TestPicksOfTwins(t *testing.T) {
	first := commitText(idOf(treeA), "first")
	_, note, _ := strings.Cut(twinCommits[1], "\n")
	idle := commitText(idOf("map\n"), note)
	free := objsOf(treeA, "map\n", first, idle)
	taken := objsOf(treeA, "map\n", first, idle, twinCommits[0])
	answerOf(impl.Picked(free, idOf(first), idOf(idle))).check(t, "Picked", answer{objsOf(append(textsIn(free), twinCommits[1])...), idOf(twinCommits[1]), true})
	answerOf(impl.Picked(taken, idOf(first), idOf(idle))).check(t, "Picked, its id taken", answer{})
	answerOf(impl.Rebased(taken, idOf(first), parents(idle))).check(t, "Rebased, its id taken", answer{})
	// The same of the tree that comes of it.
	vals := strings.TrimPrefix(twinTrees[0], "map\n")
	g := mappedGraph([]string{"b=1\n", vals + "b=1\n", ""}, nil, []int{0}, nil)
	answerOf(impl.Picked(g.objs, g.ids[2], g.ids[1])).checkMap(t, "Picked", vals, g.ids[2], "commit 1")
	taken = objsOf(append(g.texts, twinTrees[1])...)
	answerOf(impl.Picked(taken, g.ids[2], g.ids[1])).check(t, "Picked, its tree's id taken", answer{})
	back := mappedGraph([]string{vals + "b=1\n", "b=1\n", ""}, nil, []int{0}, nil)
	answerOf(impl.Reverted(back.objs, back.ids[2], back.ids[1])).checkMap(t, "Reverted", vals, back.ids[2], "revert")
	taken = objsOf(append(back.texts, twinTrees[1])...)
	answerOf(impl.Reverted(taken, back.ids[2], back.ids[1])).check(t, "Reverted, its tree's id taken", answer{})
}

func TestRebasedOfAllGraphs(t *testing.T) {
	told := map[bool]int{}
	for name, g := range graphs() {
		h := mappedGraph(ternary(len(g.parents), 7), g.parents...)
		for onto := range h.ids {
			checkRebased(t, name, h, onto)
			for at := range h.ids {
				more := (3*at + onto) % len(h.ids)
				told[checkRebased(t, name, h, onto, at, more)]++
				if at%4 == 0 {
					told[checkRebased(t, name, h, onto, at, more, (at+1)%len(h.ids))]++
				}
			}
		}
	}
	if min(told[true], told[false]) < 100 {
		t.Errorf("too few are told true or false: %v", told)
	}
}

// toggled is a chain of n commits that turn one value to and fro, and one more
// commit, the last, that has this value, too.
func toggled(n int) graph {
	maps, parents := []string{}, chain(n, false)
	for i := range n {
		maps = append(maps, fmt.Sprintf("a=%d\n", 1+i%2))
	}
	return mappedGraph(append(maps, "a=1\nb=1\n"), append(parents, nil)...)
}

func TestRebasedOfTwenty(t *testing.T) {
	g := toggled(22)
	for _, n := range []int{0, 1, 2, 19, 20, 21} {
		some := places(n + 1)[1:]
		if ok := checkRebased(t, "to and fro", g, 22, some...); ok != (n <= 20) {
			t.Errorf("Rebased of %d tells %v", n, ok)
		}
		// These are there already, so that there is room for all.
		if ok := checkRebased(t, "as they were", g, 0, some...); ok != (n <= 20) {
			t.Errorf("Rebased of %d that are there tells %v", n, ok)
		}
		a := answerOf(impl.Rebased(g.objs, g.ids[22], g.idsAt(some)))
		if a.ok && n > 0 {
			m, _ := impl.MapAt(a.l, a.id)
			if want := fmt.Sprintf("a=%d\nb=1\n", 1+n%2); impl.MapText(m) != want || impl.DepthOf(a.l, a.id) != int64(n) || !impl.IsAncestor(a.l, g.ids[22], a.id) {
				t.Errorf("Rebased of %d tells a commit of %q", n, m)
			}
		}
	}
	// Not too many, but in another order.
	for _, some := range [][]int{{2}, {2, 1}, {1, 3}, {1, 2, 2}, {1, 2, 4}, {1, 2, 3, 2, 1, 2}} {
		checkRebased(t, "to and fro", g, 22, some...)
	}
	for _, n := range []int{21, 22, 1000, 100000} {
		answerOf(impl.Rebased(g.objs, g.ids[0], slices.Repeat(g.ids[1:2], n))).check(t, "Rebased of many", answer{})
	}
}

// Of one twice the second pick does not fit, unless it did nothing.
func TestRebasedOfOneTwice(t *testing.T) {
	g := mappedGraph([]string{"a=1\n", "a=1\nb=1\n", "a=1\n", "c=1\n"}, nil, []int{0}, []int{0}, nil)
	for _, c := range []struct {
		name   string
		onto   int
		places []int
		want   string
	}{
		{"once", 3, []int{1}, "b=1\nc=1\n"},
		{"twice", 3, []int{1, 1}, "no"},
		{"twice, with one between", 3, []int{1, 2, 1}, "no"},
		{"one that did nothing", 3, []int{2}, "c=1\n"},
		{"one that did nothing, twice", 3, []int{2, 2}, "c=1\n"},
		{"one that did nothing, and another", 3, []int{2, 1, 2}, "b=1\nc=1\n"},
		{"one that did nothing, 20 times", 3, slices.Repeat([]int{2}, 20), "c=1\n"},
		{"one that did nothing, 21 times", 3, slices.Repeat([]int{2}, 21), "no"},
		{"one that did nothing, 20 times onto its parent", 0, slices.Repeat([]int{2}, 20), "a=1\n"},
		{"one that did nothing, onto itself", 2, []int{2, 2}, "a=1\n"},
		{"onto itself", 1, []int{1}, "no"},
		{"without parents", 3, []int{0}, "a=1\nc=1\n"},
		{"without parents, twice", 3, []int{0, 0}, "no"},
		{"one behind the other", 3, []int{0, 1}, "a=1\nb=1\nc=1\n"},
		{"the other way round", 3, []int{1, 0}, "a=1\nb=1\nc=1\n"},
	} {
		if ok := checkRebased(t, c.name, g, c.onto, c.places...); ok != (c.want != "no") {
			t.Errorf("%s: Rebased tells %v", c.name, ok)
		}
		a := answerOf(impl.Rebased(g.objs, g.ids[c.onto], g.idsAt(c.places)))
		if m, _ := impl.MapAt(a.l, a.id); a.ok && impl.MapText(m) != c.want {
			t.Errorf("%s: Rebased tells a commit of %q", c.name, m)
		}
	}
}

func TestRebasedOfOneThatIsFalseAmongOthers(t *testing.T) {
	g := mappedGraph([]string{"a=1\n", "b=1\n", "c=1\n", "d=1\n", "a=2\n"}, nil, nil, nil, nil, nil)
	if !checkRebased(t, "all fit", g, 0, 1, 2, 3) {
		t.Error("Rebased of those that fit tells false")
	}
	for _, some := range [][]int{{4}, {4, 1, 2}, {1, 4, 2}, {1, 2, 4}, {0, 1}, {1, 0}} {
		if checkRebased(t, "one does not fit", g, 0, some...) {
			t.Errorf("Rebased of %v tells true", some)
		}
	}
	for _, none := range append(noCommits(), wrongIds()...) {
		for _, ids := range [][]string{{none}, {none, g.ids[1]}, {g.ids[1], none, g.ids[2]}, {g.ids[1], g.ids[2], none}} {
			answerOf(impl.Rebased(g.objs, g.ids[0], ids)).check(t, "Rebased with no commit", answer{})
		}
	}
	// There is room for the first, but not for the second: 10 are here, 48 more.
	full := objsOf(append(trees(48), g.texts...)...)
	if len(full) != 58 {
		t.Fatalf("there are %d objects", len(full))
	}
	if a := answerOf(impl.Rebased(full, g.ids[0], g.ids[1:2])); !a.ok || len(a.l) != 60 {
		t.Errorf("Rebased of one tells %d objects, %v", len(a.l), a.ok)
	}
	answerOf(impl.Rebased(full, g.ids[0], g.ids[1:3])).check(t, "Rebased without room", answer{})
}

// Each is picked with the objects that there are by then.
func TestRebasedOfOneThatItMakes(t *testing.T) {
	g := mappedGraph([]string{"a=1\n", "b=1\n", "b=1\n"}, nil, nil, []int{1})
	l, made, _ := impl.Picked(g.objs, g.ids[0], g.ids[2])
	want := answerOf(impl.Picked(l, made, made))
	want.checkMap(t, "Picked", "a=1\n", made, "commit 2")
	answerOf(impl.Rebased(g.objs, g.ids[0], []string{g.ids[2], made})).check(t, "Rebased", want)
	answerOf(impl.Rebased(g.objs, g.ids[0], []string{made, g.ids[2]})).check(t, "Rebased, too early", answer{})
}

func checkNoPicks(t *testing.T, name string, l []impl.Obj, onto, id string) {
	t.Helper()
	call := fmt.Sprintf("%s: onto %.20q, %.20q: ", name, onto, id)
	answerOf(impl.Picked(l, onto, id)).check(t, call+"Picked", answer{})
	answerOf(impl.Reverted(l, onto, id)).check(t, call+"Reverted", answer{})
	for _, ids := range [][]string{{id}, {id, id}, {id, onto}} {
		answerOf(impl.Rebased(l, onto, ids)).check(t, call+"Rebased", answer{})
	}
}

// checkNoCommit asks that nothing is told of an id, whatever else is asked.
func checkNoCommit(t *testing.T, name string, l []impl.Obj, id string, others ...string) {
	t.Helper()
	if c, ok := impl.PickOf(l, id); ok || len(c) != 0 {
		t.Errorf("%s: PickOf %.20q tells %v, %v", name, id, c, ok)
	}
	answerOf(impl.Rebased(l, id, nil)).check(t, name+": Rebased of none", answer{})
	answerOf(impl.Rebased(l, id, []string{})).check(t, name+": Rebased of none", answer{})
	for _, other := range append(others, id) {
		checkNoPicks(t, name, l, other, id)
		checkNoPicks(t, name, l, id, other)
	}
}

func TestPicksRefuseWhatIsNoCommit(t *testing.T) {
	// The second one did nothing, and could be picked anywhere.
	g := mappedGraph([]string{"a=1\n", "a=1\n", "b=1\n"}, nil, []int{0}, nil)
	ids := slices.Concat(noCommits(), wrongIds(), []string{idOf("map\nb=1\n"), g.ids[1] + "0", g.ids[1][:15], "commit"})
	for _, id := range ids {
		checkNoCommit(t, "no commit", g.objs, id, g.ids...)
	}
	for _, id := range append(ids, g.ids...) {
		checkNoCommit(t, "no objects", nil, id, g.ids...)
		checkNoCommit(t, "trees alone", objsOf(trees(60)...), id, g.ids...)
	}
}

func TestPicksRefuseWhatIsNoRepository(t *testing.T) {
	first := idOf(commitText(idOf(treeA), "first"))
	for name, l := range wrongRepos() {
		for _, id := range []string{first, idOf(treeA), idOf("abc")} {
			checkNoCommit(t, name, l, id, first)
		}
	}
	g := mappedGraph([]string{"a=1\n", "a=1\n", "b=1\n"}, nil, []int{0}, nil)
	for name, l := range map[string][]impl.Obj{
		"ids fall":     slices.Concat(g.objs[1:2], g.objs[:1], g.objs[2:]),
		"one twice":    slices.Concat(g.objs[:1], g.objs),
		"another text": append(slices.Clone(g.objs), impl.Obj{Id: "ffffffffffffffff", Text: "map\n"}),
		"abc there":    objsOf(append(slices.Clone(g.texts), "abc")...),
		"61 objects":   objsOf(append(trees(56), g.texts...)...),
	} {
		for _, id := range g.ids {
			checkNoCommit(t, name, l, id, g.ids...)
		}
	}
}

func TestPickCallsLeaveTheirArguments(t *testing.T) {
	g := mappedGraph([]string{"a=1\n", "a=1\nb=1\n", "c=1\n", "a=1\nc=1\n"}, nil, []int{0}, nil, []int{0})
	h := mappedGraph(ternary(7, 4), crossing(3)...)
	for _, objs := range [][]impl.Obj{nil, g.objs, g.objs[1:], h.objs, objsOf("abc", "def")} {
		for _, list := range [][]string{nil, g.ids, g.ids[1:2], g.ids[1:3], h.ids, slices.Repeat(g.ids[:1], 21)} {
			l, ids := newRoomy(objs, spareObj), newRoomy(list, "spare")
			for _, onto := range slices.Concat(g.ids, h.ids[:3], []string{idLow}) {
				n, _, _ := impl.Rebased(l.list(), onto, ids.list())
				spoil(n, spareObj)
				for _, id := range slices.Concat(g.ids, h.ids[2:]) {
					n, _, _ = impl.Picked(l.list(), onto, id)
					spoil(n, spareObj)
					n, _, _ = impl.Reverted(l.list(), onto, id)
					spoil(n, spareObj)
					c, _ := impl.PickOf(l.list(), id)
					spoil(c, spareChange)
				}
			}
			l.check(t, "a call of picks")
			ids.check(t, "Rebased")
		}
	}
}

func TestPickCallsAnswerTheSameAgain(t *testing.T) {
	g := mappedGraph([]string{"a=1\n", "a=1\nb=1\n", "a=1\nc=1\n"}, nil, []int{0}, []int{0})
	for range 20 {
		checkPickOf(t, "again", g, 1)
		checkPicked(t, "again", g, 2, 1)
		checkReverted(t, "again", g, 1, 1)
		checkRebased(t, "again", g, 1)
		checkRebased(t, "again", g, 2, 1)
		c, _ := impl.PickOf(g.objs, g.ids[1])
		spoil(c, spareChange)
		for _, a := range []answer{
			answerOf(impl.Picked(g.objs, g.ids[2], g.ids[1])),
			answerOf(impl.Reverted(g.objs, g.ids[1], g.ids[1])),
			answerOf(impl.Rebased(g.objs, g.ids[1], nil)),
			answerOf(impl.Rebased(g.objs, g.ids[0], g.ids[1:])),
		} {
			spoil(a.l, spareObj)
		}
	}
}

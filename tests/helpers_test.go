package tests

import (
	"crypto/sha256"
	"encoding/hex"
	"fmt"
	"maps"
	"runtime"
	"slices"
	"strings"
	"testing"
	"time"

	"loop.example/g00652/impl"
)

// numbered is a right map of n pairs, as long as n is at most 100.
func numbered(n int) []impl.Pair {
	var m []impl.Pair
	for i := range n {
		m = append(m, impl.Pair{Key: fmt.Sprintf("k%02d", i), Val: fmt.Sprintf("v%d", i)})
	}
	return m
}

// roomy holds a list that has used rows in its spare room, to see whether a
// call writes into the list or behind it.
type roomy[T comparable] struct {
	all  []T
	was  []T
	size int
}

func newRoomy[T comparable](list []T, spare T) roomy[T] {
	all := slices.Clone(list)
	for range 3 {
		all = append(all, spare)
	}
	return roomy[T]{all: all, was: slices.Clone(all), size: len(list)}
}

func (r roomy[T]) list() []T { return r.all[:r.size] }

func (r roomy[T]) check(t *testing.T, call string) {
	t.Helper()
	if !slices.Equal(r.all, r.was) {
		t.Errorf("%s wrote into its argument or behind it: %q", call, fmt.Sprint(r.all))
	}
}

// spoil writes over an answer and its spare room, which must be its own.
func spoil[T any](answer []T, with T) {
	answer = answer[:cap(answer)]
	for i := range answer {
		answer[i] = with
	}
}

// checkGoroutines asks that the call leaves none behind. One that is at its end
// may still be seen for a moment, so it is asked more than once.
func checkGoroutines(t *testing.T, name string, call func()) {
	t.Helper()
	before := runtime.NumGoroutine()
	for range 50 {
		call()
	}
	for range 200 {
		if runtime.NumGoroutine() <= before {
			return
		}
		time.Sleep(10 * time.Millisecond)
	}
	t.Errorf("%s: there were %d goroutines, and are %d", name, before, runtime.NumGoroutine())
}

var (
	sparePair = impl.Pair{Key: "spare", Val: "room"}
	spareObj  = impl.Obj{Id: "spare", Text: "room"}
	spareRef  = impl.Ref{Name: "spare", Id: idMid}
)

const (
	idLow  = "0123456789abcdef"
	idMid  = "5555555555555555"
	idHigh = "fedcba9876543210"
)

// idOf is reckoned by the library, so that the tests do not lean on IdOf.
func idOf(text string) string {
	sum := sha256.Sum256([]byte(text))
	return hex.EncodeToString(sum[:8])
}

// objsOf are the objects of these texts, as they have to stand.
func objsOf(texts ...string) []impl.Obj {
	byId := map[string]string{}
	for _, text := range texts {
		byId[idOf(text)] = text
	}
	var l []impl.Obj
	for _, id := range slices.Sorted(maps.Keys(byId)) {
		l = append(l, impl.Obj{Id: id, Text: byId[id]})
	}
	return l
}

// objIds are the ids of objects, in their order.
func objIds(l []impl.Obj) []string {
	var ids []string
	for _, o := range l {
		ids = append(ids, o.Id)
	}
	return ids
}

// texts are n of them, all unlike.
func texts(n int) []string {
	var out []string
	for i := range n {
		out = append(out, fmt.Sprintf("text %d", i))
	}
	return out
}

// notRightObjs are lists of objects that are not right, each for one reason,
// with the text abc among them where that can be.
func notRightObjs() map[string][]impl.Obj {
	right := objsOf("abc", "def", "ghi")
	long := strings.Repeat("x", 2001)
	sum := sha256.Sum256([]byte("abc"))
	return map[string][]impl.Obj{
		"ids fall":              {right[0], right[2], right[1]},
		"first two fall":        {right[1], right[0], right[2]},
		"one twice":             {right[0], right[1], right[1]},
		"61 objects":            objsOf(append(texts(60), "abc")...),
		"text of 2001 bytes":    objsOf("abc", long),
		"2001 bytes, no id":     append([]impl.Obj{{Text: long}}, right...),
		"no id":                 append([]impl.Obj{{Text: ""}}, right...),
		"another text":          {right[0], right[1], {Id: right[2].Id, Text: right[2].Text + "!"}},
		"another id":            {{Id: "0000000000000000", Text: "xyz"}, right[0], right[1]},
		"id of 15 digits":       {{Id: idOf("abc")[:15], Text: "abc"}},
		"id of 17 digits":       {{Id: hex.EncodeToString(sum[:9])[:17], Text: "abc"}},
		"id in capital letters": {{Id: strings.ToUpper(idOf("abc")), Text: "abc"}},
		"ids changed about":     {{Id: right[0].Id, Text: right[1].Text}, {Id: right[1].Id, Text: right[0].Text}},
	}
}

// commitText is put together by hand, so that the tests do not lean on CommitText.
func commitText(treeId string, note string, parents ...string) string {
	text := "commit " + treeId
	for _, id := range parents {
		text += " " + id
	}
	return text + "\n" + note
}

const (
	treeA = "map\na=1\n"
	treeB = "map\nb=2\n"
)

// Twins are two texts of one id; these were found by a long search. Of the two
// commits of treeA the second one has a parent: that of treeA with the note first.
var (
	twinCommits    = [2]string{"commit ffe3589ddb37bf29\nTA+UZYGfXv4", "commit ffe3589ddb37bf29 82e6864dac02764f\n7Dj8ap4FSp0"}
	twinTrees      = [2]string{"map\na=Hyy8hDswiT4\n", "map\na=Wc4v1F+Wth0\n"}
	twinTreeCommit = [2]string{"map\na=zIt2uTJx4R0\n", "commit ffe3589ddb37bf29\nRPtXBmhaKq7"}
)

// notRightRepos are texts whose objects are right, but no repository, each for
// one reason, with the commit of treeA and the note first among them.
func notRightRepos() map[string][]string {
	first := commitText(idOf(treeA), "first")
	none := idOf("none")
	high, low := max(idOf(first), idOf("map\n")), min(idOf(first), idOf("map\n"))
	second := commitText(idOf(treeA), "second")
	repos := map[string][]string{
		"another text":                {"abc"},
		"the empty text":              {""},
		"map without a line's end":    {"map"},
		"two maps":                    {"map\nmap\n"},
		"a map's text alone":          {"a=1\n"},
		"pair without an end":         {"map\na=1"},
		"keys of a tree fall":         {"map\nb=1\na=1\n"},
		"value of 13 bytes":           {"map\na=1234567890123\n"},
		"no such Tree":                {commitText(none, "")},
		"Tree is a commit":            {commitText(idOf(first), "")},
		"no such parent":              {commitText(idOf(treeA), "", none)},
		"no such second parent":       {commitText(idOf(treeA), "", parents(first, "none")...)},
		"parent is a tree":            {commitText(idOf(treeA), "", idOf(treeA))},
		"second parent is a tree":     {"map\n", commitText(idOf(treeA), "", low, high)},
		"parents fall":                {second, commitText(idOf(treeA), "", max(idOf(first), idOf(second)), min(idOf(first), idOf(second)))},
		"parents alike":               {commitText(idOf(treeA), "", idOf(first), idOf(first))},
		"note of 41 bytes":            {commitText(idOf(treeA), strings.Repeat("x", 41))},
		"note with a byte 10":         {commitText(idOf(treeA), "x\n")},
		"commit without a line's end": {"commit " + idOf(treeA)},
	}
	for name := range repos {
		repos[name] = append(repos[name], treeA, first)
	}
	return repos
}

// parents are the ids of these texts, as they have to stand in a commit.
func parents(texts ...string) []string {
	var ids []string
	for _, text := range texts {
		ids = append(ids, idOf(text))
	}
	slices.Sort(ids)
	return ids
}

// notRightTreesAndCommits are objects that are not right, though all of their
// texts could stand in a repository.
func notRightTreesAndCommits() map[string][]impl.Obj {
	right := objsOf(treeA, commitText(idOf(treeA), "first"))
	return map[string][]impl.Obj{
		"ids fall":   {right[1], right[0]},
		"one twice":  {right[0], right[1], right[1]},
		"another id": {right[0], right[1], {Id: "ffffffffffffffff", Text: treeB}},
		"61 objects": objsOf(trees(61)...),
	}
}

// trees are n texts, all unlike.
func trees(n int) []string {
	var out []string
	for i := range n {
		out = append(out, fmt.Sprintf("map\nn=%d\n", i))
	}
	return out
}

// pairsOf are the pairs of a Go map, as they have to stand.
func pairsOf(vals map[string]string) []impl.Pair {
	var m []impl.Pair
	for _, key := range slices.Sorted(maps.Keys(vals)) {
		m = append(m, impl.Pair{Key: key, Val: vals[key]})
	}
	return m
}

func valsOf(m []impl.Pair) map[string]string {
	vals := map[string]string{}
	for _, p := range m {
		vals[p.Key] = p.Val
	}
	return vals
}

// lettered is numbered with other keys: all stand ahead of those, or behind.
func lettered(n int, letter string) []impl.Pair {
	m := numbered(n)
	for i := range m {
		m[i].Key = letter + m[i].Key
	}
	return m
}

func has(vals map[string]string, key string) bool {
	_, there := vals[key]
	return there
}

// notRightMaps are maps that are not right, each for one reason.
func notRightMaps() map[string][]impl.Pair {
	return map[string][]impl.Pair{
		"key twice":       {{Key: "a", Val: "1"}, {Key: "a", Val: "1"}},
		"keys fall":       {{Key: "b", Val: "2"}, {Key: "a", Val: "1"}},
		"key of 0 bytes":  {{Key: "", Val: "2"}, {Key: "a", Val: "1"}},
		"key of 9 bytes":  {{Key: "a", Val: "1"}, {Key: "abcdefgh9", Val: "2"}},
		"key A":           {{Key: "A", Val: "1"}, {Key: "a", Val: "1"}},
		"value too long":  {{Key: "a", Val: "1"}, {Key: "b", Val: "1234567890123"}},
		"value of byte 9": {{Key: "a", Val: "1"}, {Key: "b", Val: "\t"}},
		"41 pairs":        numbered(41),
	}
}

// rightMaps are right maps: of no pairs, of 40, and some by chance that is always the same.
func rightMaps() [][]impl.Pair {
	turned := numbered(40)
	for i := range turned {
		turned[i].Val = "turned"
	}
	out := [][]impl.Pair{
		nil, {}, {{Key: "k00", Val: "v0"}}, {{Key: "k00"}}, {{Key: "k05", Val: "v5"}}, {{Key: "z", Val: "="}},
		numbered(39), numbered(40), numbered(40)[1:], turned, lettered(40, "a"), lettered(40, "z"),
		append(lettered(20, "a"), numbered(20)...), append(numbered(20), lettered(20, "z")...),
	}
	next := uint32(7)
	for range 20 {
		vals := map[string]string{}
		for range 30 {
			next = next*1664525 + 1013904223
			vals[fmt.Sprintf("k%02d", next>>26)] = fmt.Sprintf("v%d", next>>10&3)
		}
		out = append(out, pairsOf(vals))
	}
	return out
}

// numberedRefs are right refs, as long as n is at most 20.
func numberedRefs(n int) []impl.Ref {
	var r []impl.Ref
	for i := range n {
		r = append(r, impl.Ref{Name: fmt.Sprintf("r%02d", i), Id: idOf(fmt.Sprint(i))})
	}
	return r
}

// notRightRefs are refs that are not right, each for one reason, with main
// among them where that can be.
func notRightRefs() map[string][]impl.Ref {
	main := impl.Ref{Name: "main", Id: idMid}
	return map[string][]impl.Ref{
		"names fall":           {{Name: "zoo", Id: idLow}, main},
		"names fall at last":   {main, {Name: "zoo", Id: idLow}, {Name: "new", Id: idLow}},
		"main twice":           {main, main},
		"main twice, to two":   {main, {Name: "main", Id: idHigh}},
		"another twice":        {{Name: "a", Id: idLow}, {Name: "a", Id: idLow}, main},
		"name of 0 bytes":      {{Name: "", Id: idLow}, main},
		"name of 9 bytes":      {main, {Name: "main56789", Id: idLow}},
		"name in capitals":     {{Name: "Main", Id: idLow}, main},
		"name with a blank":    {main, {Name: "main 2", Id: idLow}},
		"name of a byte 128":   {main, {Name: "\x80", Id: idLow}},
		"no id":                {main, {Name: "new", Id: ""}},
		"id of 15 digits":      {main, {Name: "new", Id: idLow[:15]}},
		"id of 17 digits":      {main, {Name: "new", Id: idLow + "0"}},
		"id in capitals":       {main, {Name: "new", Id: strings.ToUpper(idLow)}},
		"id with a g":          {{Name: "a", Id: idLow[:15] + "g"}, main},
		"main without an id":   {{Name: "main"}},
		"zero values":          make([]impl.Ref, 2),
		"21":                   append([]impl.Ref{main}, numberedRefs(20)...),
		"many, all alike":      slices.Repeat([]impl.Ref{main}, 100000),
		"many, with no values": make([]impl.Ref, 100000),
	}
}

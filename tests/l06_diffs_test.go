package tests

import (
	"fmt"
	"maps"
	"regexp"
	"slices"
	"strings"
	"testing"

	"loop.example/g00652/impl"
)

var spareChange = impl.Change{Key: "spare", Old: "room", New: "too", Had: true, Has: true}

// diffBetween is a diff as the document has it, by way of Go maps.
func diffBetween(a, b []impl.Pair) []impl.Change {
	old, now := valsOf(a), valsOf(b)
	keys := maps.Clone(old)
	maps.Copy(keys, now)
	var out []impl.Change
	for _, key := range slices.Sorted(maps.Keys(keys)) {
		c := impl.Change{Key: key}
		c.Old, c.Had = old[key], has(old, key)
		c.New, c.Has = now[key], has(now, key)
		if c.Had != c.Has || c.Old != c.New {
			out = append(out, c)
		}
	}
	return out
}

func TestDiffOf(t *testing.T) {
	for _, c := range []struct {
		a, b string
		want []impl.Change
	}{
		{"", "", nil},
		{"a=1\nb=2\n", "a=1\nb=2\n", nil},
		{"", "a=1\n", []impl.Change{{Key: "a", New: "1", Has: true}}},
		{"a=1\n", "", []impl.Change{{Key: "a", Old: "1", Had: true}}},
		{"", "a=\n", []impl.Change{{Key: "a", Has: true}}},
		{"a=\n", "", []impl.Change{{Key: "a", Had: true}}},
		{"a=\n", "a=1\n", []impl.Change{{Key: "a", New: "1", Had: true, Has: true}}},
		{"a=1\n", "a=\n", []impl.Change{{Key: "a", Old: "1", Had: true, Has: true}}},
		{"a=1\n", "a=2\n", []impl.Change{{Key: "a", Old: "1", New: "2", Had: true, Has: true}}},
		{"a=1\nb=2\nc=3\n", "a=0\nb=2\nc=4\n", []impl.Change{{Key: "a", Old: "1", New: "0", Had: true, Has: true}, {Key: "c", Old: "3", New: "4", Had: true, Has: true}}},
		{"b=1\n", "a=1\n", []impl.Change{{Key: "a", New: "1", Has: true}, {Key: "b", Old: "1", Had: true}}},
		{"a=1\n", "b=1\n", []impl.Change{{Key: "a", Old: "1", Had: true}, {Key: "b", New: "1", Has: true}}},
		{"a=1\nc=1\n", "a0=1\nc=1\n", []impl.Change{{Key: "a", Old: "1", Had: true}, {Key: "a0", New: "1", Has: true}}},
	} {
		a, _ := impl.ReadMap(c.a)
		b, _ := impl.ReadMap(c.b)
		if l, ok := impl.DiffOf(a, b); !ok || !slices.Equal(l, c.want) {
			t.Errorf("%q, %q: DiffOf tells %v, %v", c.a, c.b, l, ok)
		}
	}
	for i, a := range rightMaps() {
		for j, b := range rightMaps() {
			if l, ok := impl.DiffOf(a, b); !ok || !slices.Equal(l, diffBetween(a, b)) {
				t.Errorf("maps %d, %d: DiffOf tells %v, %v", i, j, l, ok)
			}
		}
	}
}

func TestDiffCallsRefuseMapsThatAreNotRight(t *testing.T) {
	for name, m := range notRightMaps() {
		for _, right := range [][]impl.Pair{nil, {{Key: "a", Val: "1"}}, numbered(40)} {
			if l, ok := impl.DiffOf(m, right); ok || len(l) != 0 {
				t.Errorf("%s: DiffOf it and a right one tells %v, %v", name, l, ok)
			}
			if l, ok := impl.DiffOf(right, m); ok || len(l) != 0 {
				t.Errorf("%s: DiffOf a right one and it tells %v, %v", name, l, ok)
			}
		}
		if l, ok := impl.DiffOf(m, m); ok || len(l) != 0 {
			t.Errorf("%s: DiffOf it and itself tells %v, %v", name, l, ok)
		}
		// The last two would make some of these right.
		for _, l := range [][]impl.Change{
			nil, {{Key: "c", New: "x", Has: true}}, {{Key: "b", Old: "\t", New: "x", Had: true, Has: true}}, {{Key: m[0].Key, Old: m[0].Val, Had: true}},
		} {
			if n, ok := impl.Applied(m, l); ok || len(n) != 0 {
				t.Errorf("%s: Applied of %v tells %q, %v", name, l, n, ok)
			}
		}
	}
}

func TestDiffsLeadThereAndBack(t *testing.T) {
	for i, a := range rightMaps() {
		for j, b := range rightMaps() {
			l, _ := impl.DiffOf(a, b)
			if n, ok := impl.Applied(a, l); !ok || !slices.Equal(n, b) {
				t.Errorf("maps %d, %d: Applied tells %q, %v", i, j, n, ok)
			}
			if n, ok := impl.Applied(b, impl.Inverse(l)); !ok || !slices.Equal(n, a) {
				t.Errorf("maps %d, %d: Applied of Inverse tells %q, %v", i, j, n, ok)
			}
			if back, _ := impl.DiffOf(b, a); !slices.Equal(back, impl.Inverse(l)) {
				t.Errorf("maps %d, %d: DiffOf the other way is not Inverse", i, j)
			}
		}
	}
}

// Whichever side of the 40 pairs the new ones go to, there may be more than 40
// on the way, as long as there are not at the end.
func TestAppliedAtFortyPairs(t *testing.T) {
	m := numbered(40)
	for _, letter := range []string{"a", "k00a", "k20a", "z"} {
		gain := impl.Change{Key: letter, New: "x", Has: true}
		if n, ok := impl.Applied(m[1:], []impl.Change{gain}); !ok || len(n) != 40 || !slices.Contains(n, impl.Pair{Key: letter, Val: "x"}) {
			t.Errorf("%s as 40th: Applied tells %q, %v", letter, n, ok)
		}
		if n, ok := impl.Applied(m, []impl.Change{gain}); ok || len(n) != 0 {
			t.Errorf("%s as 41st: Applied tells %q, %v", letter, n, ok)
		}
		for _, p := range m {
			l := []impl.Change{gain, {Key: p.Key, Old: p.Val, Had: true}}
			slices.SortFunc(l, func(x, y impl.Change) int { return strings.Compare(x.Key, y.Key) })
			want := valsOf(m)
			want[letter] = "x"
			delete(want, p.Key)
			if n, ok := impl.Applied(m, l); !ok || !slices.Equal(n, pairsOf(want)) {
				t.Errorf("%s for %s: Applied tells %q, %v", letter, p.Key, n, ok)
			}
		}
	}
	all := diffBetween(nil, numbered(41))
	if n, ok := impl.Applied(nil, all[:40]); !ok || !slices.Equal(n, numbered(40)) {
		t.Errorf("40 into no pairs: Applied tells %q, %v", n, ok)
	}
	if n, ok := impl.Applied(nil, all); ok || len(n) != 0 {
		t.Errorf("41 into no pairs: Applied tells %q, %v", n, ok)
	}
	for _, letter := range []string{"a", "z"} {
		l := diffBetween(numbered(40), lettered(41, letter))
		if n, ok := impl.Applied(m, l); ok || len(n) != 0 {
			t.Errorf("41 %s for 40: Applied tells %q, %v", letter, n, ok)
		}
	}
}

func TestAppliedRefuses(t *testing.T) {
	m := []impl.Pair{{Key: "b", Val: "1"}, {Key: "d", Val: ""}, {Key: "f", Val: "3"}}
	right := []impl.Change{{Key: "b", Old: "1", New: "2", Had: true, Has: true}, {Key: "c", New: "x", Has: true}, {Key: "d", Had: true}, {Key: "e"}, {Key: "f", Old: "3", New: "3", Had: true, Has: true}}
	if n, ok := impl.Applied(m, right); !ok || impl.MapText(n) != "b=2\nc=x\nf=3\n" {
		t.Fatalf("Applied tells %q, %v", n, ok)
	}
	for name, c := range map[string]impl.Change{
		"no key":                       {Has: true},
		"no key, and nothing to do":    {},
		"key A":                        {Key: "A", Has: true},
		"key A, and nothing to do":     {Key: "A"},
		"key of 9 bytes":               {Key: "abcdefgh9", Has: true},
		"9 bytes, and nothing to do":   {Key: "abcdefgh9"},
		"key with =":                   {Key: "c=", Has: true},
		"Had where there is none":      {Key: "c", Had: true},
		"Had and Has, there is none":   {Key: "c", New: "x", Had: true, Has: true},
		"Old where there is none":      {Key: "c", Old: "x", New: "y", Had: true, Has: true},
		"not Had where there is one":   {Key: "b", New: "2", Has: true},
		"not Had, but Old":             {Key: "b", Old: "1", New: "2", Has: true},
		"not Had nor Has":              {Key: "b"},
		"not Had nor Has, but Old":     {Key: "b", Old: "1"},
		"not Had where it is empty":    {Key: "d", New: "2", Has: true},
		"nothing to do where it is":    {Key: "d"},
		"Old without Had":              {Key: "c", Old: "x", New: "x", Has: true},
		"Old alone":                    {Key: "c", Old: "x"},
		"another Old":                  {Key: "b", Old: "2", Had: true},
		"another Old, and Has":         {Key: "b", Old: "2", New: "3", Had: true, Has: true},
		"empty Old":                    {Key: "b", Had: true},
		"empty Old, and Has":           {Key: "b", New: "1", Had: true, Has: true},
		"Old where it is empty":        {Key: "d", Old: "x", Had: true},
		"New without Has":              {Key: "c", New: "x"},
		"New without Has, but Had":     {Key: "b", Old: "1", New: "2", Had: true},
		"New as Old, without Has":      {Key: "b", Old: "1", New: "1", Had: true},
		"New of 13 bytes":              {Key: "b", Old: "1", New: "1234567890123", Had: true, Has: true},
		"New of 13 bytes, not Had":     {Key: "c", New: "1234567890123", Has: true},
		"New of byte 31":               {Key: "b", Old: "1", New: "\x1f", Had: true, Has: true},
		"New of byte 127":              {Key: "c", New: "\x7f", Has: true},
		"New of byte 10 without Has":   {Key: "b", Old: "1", New: "\n", Had: true},
		"New of 13 bytes without both": {Key: "c", New: "1234567890123"},
	} {
		at, there := slices.BinarySearchFunc(right, c.Key, func(x impl.Change, key string) int { return strings.Compare(x.Key, key) })
		among := slices.Insert(slices.Clone(right), at, c)
		if there {
			among = slices.Delete(among, at+1, at+2)
		}
		for _, l := range [][]impl.Change{{c}, among} {
			if n, ok := impl.Applied(m, l); ok || len(n) != 0 {
				t.Errorf("%s: Applied of %v tells %q, %v", name, l, n, ok)
			}
		}
	}
	for i := range len(right) - 1 {
		fall := slices.Clone(right)
		fall[i], fall[i+1] = fall[i+1], fall[i]
		for _, l := range [][]impl.Change{fall, slices.Insert(slices.Clone(right), i, right[i])} {
			if n, ok := impl.Applied(m, l); ok || len(n) != 0 {
				t.Errorf("keys do not rise at %d: Applied tells %q, %v", i, n, ok)
			}
		}
	}
	// The second one is right behind the first, but keys do not rise.
	again := []impl.Change{right[0], {Key: "b", Old: "2", New: "3", Had: true, Has: true}}
	if n, ok := impl.Applied(m, again); ok || len(n) != 0 {
		t.Errorf("a key again: Applied tells %q, %v", n, ok)
	}
}

var (
	keyForm = regexp.MustCompile(`^[a-z0-9]{1,8}$`)
	valForm = regexp.MustCompile(`^[ -~]{0,12}$`)
)

// appliedTo does changes as the document has it, by way of a Go map.
func appliedTo(m []impl.Pair, l []impl.Change) ([]impl.Pair, bool) {
	vals, last := valsOf(m), ""
	for _, c := range l {
		if !keyForm.MatchString(c.Key) || c.Key <= last {
			return nil, false
		}
		if has(vals, c.Key) != c.Had || vals[c.Key] != c.Old {
			return nil, false
		}
		if !valForm.MatchString(c.New) || c.New != "" && !c.Has {
			return nil, false
		}
		last = c.Key
		delete(vals, c.Key)
		if c.Has {
			vals[c.Key] = c.New
		}
	}
	return pairsOf(vals), len(vals) <= 40
}

// someChanges are all changes of a few keys and values.
func someChanges() []impl.Change {
	var out []impl.Change
	for _, key := range []string{"", "a", "b", "A"} {
		for _, old := range []string{"", "x", "\n"} {
			for _, now := range []string{"", "x", "\n"} {
				for flags := range 4 {
					out = append(out, impl.Change{Key: key, Old: old, New: now, Had: flags&1 != 0, Has: flags&2 != 0})
				}
			}
		}
	}
	return out
}

// All lists of up to two of these changes, on all maps of a few keys and values.
func TestAppliedOfAllShortLists(t *testing.T) {
	lists := [][]impl.Change{nil}
	for _, c := range someChanges() {
		lists = append(lists, []impl.Change{c})
		for _, d := range someChanges() {
			lists = append(lists, []impl.Change{c, d})
		}
	}
	for _, text := range []string{"", "a=\n", "a=x\n", "b=\n", "b=x\n", "a=\nb=\n", "a=x\nb=\n", "a=\nb=x\n", "a=x\nb=x\n", "a=x\nb=x\nc=x\n"} {
		m, _ := impl.ReadMap(text)
		for _, l := range lists {
			want, right := appliedTo(m, l)
			if n, ok := impl.Applied(m, l); ok != right || !slices.Equal(n, want) {
				t.Fatalf("%q: Applied of %v tells %q, %v", text, l, n, ok)
			}
		}
	}
}

// manyKeys are n keys that rise.
func manyKeys(n int) []string {
	var out []string
	for i := range n {
		out = append(out, fmt.Sprintf("n%07d", i))
	}
	return out
}

func TestAppliedOfLongLists(t *testing.T) {
	var none, all []impl.Change
	for _, key := range manyKeys(100000) {
		none = append(none, impl.Change{Key: key})
		all = append(all, impl.Change{Key: key, New: "x", Has: true})
	}
	if n, ok := impl.Applied(numbered(40), none); !ok || !slices.Equal(n, numbered(40)) {
		t.Errorf("nothing to do: Applied tells %q, %v", n, ok)
	}
	if n, ok := impl.Applied(nil, all); ok || len(n) != 0 {
		t.Errorf("100000 pairs: Applied tells %d, %v", len(n), ok)
	}
	if n, ok := impl.Applied(nil, append(none[:99999:99999], all[99999])); !ok || !slices.Equal(n, []impl.Pair{{Key: "n0099999", Val: "x"}}) {
		t.Errorf("one at the end: Applied tells %q, %v", n, ok)
	}
	none[99999].Key = none[99998].Key
	if n, ok := impl.Applied(nil, none); ok || len(n) != 0 {
		t.Errorf("the last key again: Applied tells %q, %v", n, ok)
	}
}

// Nothing is asked of the changes here, so that all of them are turned round.
func TestInverse(t *testing.T) {
	if l := impl.Inverse(nil); len(l) != 0 {
		t.Errorf("no changes: Inverse tells %v", l)
	}
	l := someChanges()
	slices.Reverse(l)
	for len(l) < 1000 {
		l = append(l, impl.Change{Key: strings.Repeat("\n", 100), Old: strings.Repeat("x", 100), Had: true})
	}
	back := impl.Inverse(l)
	if len(back) != len(l) {
		t.Fatalf("Inverse tells %d", len(back))
	}
	for i, c := range l {
		if back[i] != (impl.Change{Key: c.Key, Old: c.New, New: c.Old, Had: c.Has, Has: c.Had}) {
			t.Errorf("%v: Inverse tells %v", c, back[i])
		}
	}
	if !slices.Equal(impl.Inverse(back), l) {
		t.Error("Inverse of Inverse is another list")
	}
}

func TestDiffText(t *testing.T) {
	for _, c := range []struct {
		l    []impl.Change
		want string
	}{
		{nil, ""},
		{[]impl.Change{{Key: "a", New: "1", Has: true}}, "+a=1\n"},
		{[]impl.Change{{Key: "a", Old: "1", Had: true}}, "-a=1\n"},
		{[]impl.Change{{Key: "a", Old: "1", New: "2", Had: true, Has: true}}, "-a=1\n+a=2\n"},
		{[]impl.Change{{Key: "a", Had: true}, {Key: "b", Has: true}, {Key: "c", Had: true, Has: true}}, "-a=\n+b=\n-c=\n+c=\n"},
		{[]impl.Change{{Key: "b", New: " =~", Has: true}, {Key: "a", Old: "1", Had: true}}, "+b= =~\n-a=1\n"},
		{[]impl.Change{{Key: "a"}}, ""},
		{[]impl.Change{{}, {Had: true}, {Has: true}}, "-=\n+=\n"},
		{[]impl.Change{{Key: "a", Old: "1", New: "2"}}, ""},
		{[]impl.Change{{Key: "a", Old: "1", New: "2", Had: true}}, "-a=1\n"},
		{[]impl.Change{{Key: "a", Old: "1", New: "2", Has: true}}, "+a=2\n"},
		{[]impl.Change{{Key: "A\n", Old: "\x00", New: strings.Repeat("x", 20), Had: true, Has: true}}, "-A\n=\x00\n+A\n=xxxxxxxxxxxxxxxxxxxx\n"},
		{[]impl.Change{{Key: "a", Old: "1", New: "1", Had: true, Has: true}}, "-a=1\n+a=1\n"},
	} {
		if s := impl.DiffText(c.l); s != c.want {
			t.Errorf("%v: DiffText tells %q, not %q", c.l, s, c.want)
		}
	}
}

func TestDiffTextOfAHundredChanges(t *testing.T) {
	for _, c := range []struct {
		change impl.Change
		text   string
	}{
		{impl.Change{Key: "a", Old: "1", New: "2", Had: true, Has: true}, "-a=1\n+a=2\n"},
		{impl.Change{Key: "a", Old: "1", Had: true}, "-a=1\n"},
		{impl.Change{Key: "a", New: "2", Has: true}, "+a=2\n"},
	} {
		for _, n := range []int{1, 50, 51, 99, 100} {
			if s := impl.DiffText(slices.Repeat([]impl.Change{c.change}, n)); s != strings.Repeat(c.text, n) {
				t.Errorf("%d changes: DiffText tells %q", n, s)
			}
		}
		for _, n := range []int{101, 102, 100000} {
			if s := impl.DiffText(slices.Repeat([]impl.Change{c.change}, n)); s != "" {
				t.Errorf("%d changes: DiffText tells %d bytes", n, len(s))
			}
		}
	}
	// 100 may be over, though they say nothing.
	l := append(make([]impl.Change, 100), impl.Change{Key: "a", Has: true})
	if s := impl.DiffText(l); s != "" {
		t.Errorf("100 that say nothing, and one: DiffText tells %q", s)
	}
	if s := impl.DiffText(l[1:]); s != "+a=\n" {
		t.Errorf("99 that say nothing, and one: DiffText tells %q", s)
	}
}

func TestDiffCallsLeaveTheirArguments(t *testing.T) {
	for _, a := range append(rightMaps(), numbered(41), []impl.Pair{{Key: "b"}, {Key: "a"}}) {
		for _, b := range rightMaps() {
			one, other := newRoomy(a, sparePair), newRoomy(b, sparePair)
			l, _ := impl.DiffOf(one.list(), other.list())
			for _, list := range [][]impl.Change{nil, l, diffBetween(b, a), someChanges()} {
				changes := newRoomy(list, spareChange)
				n, _ := impl.Applied(one.list(), changes.list())
				spoil(n, sparePair)
				spoil(impl.Inverse(changes.list()), spareChange)
				impl.DiffText(changes.list())
				changes.check(t, "a call of diffs")
			}
			spoil(l, spareChange)
			one.check(t, "a call of diffs")
			other.check(t, "DiffOf")
		}
	}
}

func TestDiffCallsAnswerTheSameAgain(t *testing.T) {
	a, b := numbered(5), numbered(7)[1:]
	for range 20 {
		l, ok := impl.DiffOf(a, b)
		if !ok || !slices.Equal(l, diffBetween(a, b)) {
			t.Errorf("DiffOf tells %v, %v", l, ok)
		}
		back := impl.Inverse(l)
		if !slices.Equal(back, diffBetween(b, a)) {
			t.Errorf("Inverse tells %v", back)
		}
		n, ok := impl.Applied(a, l)
		if !ok || !slices.Equal(n, b) {
			t.Errorf("Applied tells %q, %v", n, ok)
		}
		if s := impl.DiffText(l); s != "-k00=v0\n+k05=v5\n+k06=v6\n" {
			t.Errorf("DiffText tells %q", s)
		}
		spoil(n, sparePair)
		spoil(back, spareChange)
		spoil(l, spareChange)
	}
}

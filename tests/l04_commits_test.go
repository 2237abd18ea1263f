package tests

import (
	"regexp"
	"slices"
	"strings"
	"testing"

	"loop.example/g00652/impl"
)

func sameCommit(a, b impl.Commit) bool {
	return a.Tree == b.Tree && slices.Equal(a.Parents, b.Parents) && a.Note == b.Note
}

func isZero(c impl.Commit) bool {
	return c.Tree == "" && len(c.Parents) == 0 && c.Note == ""
}

func rightCommits() map[string]impl.Commit {
	return map[string]impl.Commit{
		"no parent":        {Tree: idLow, Note: "first"},
		"empty parents":    {Tree: idLow, Parents: []string{}, Note: "first"},
		"one parent":       {Tree: idLow, Parents: []string{idHigh}, Note: "second"},
		"two parents":      {Tree: idMid, Parents: []string{idLow, idHigh}, Note: "third"},
		"parent as Tree":   {Tree: idMid, Parents: []string{idLow, idMid}, Note: "odd"},
		"no note":          {Tree: idLow},
		"note of blanks":   {Tree: idLow, Parents: []string{idLow}, Note: "  "},
		"note like an id":  {Tree: idLow, Note: " " + idLow},
		"note of 39 bytes": {Tree: idLow, Note: strings.Repeat("x", 39)},
		"note of 40 bytes": {Tree: idHigh, Parents: []string{idLow, idMid}, Note: strings.Repeat("~", 40)},
		"bytes 32 and 126": {Tree: idLow, Note: "\x20\x7e"},
	}
}

func wrongCommits() map[string]impl.Commit {
	return map[string]impl.Commit{
		"nothing":               {},
		"no Tree":               {Parents: []string{idLow}, Note: "x"},
		"Tree of 15 digits":     {Tree: idLow[:15]},
		"Tree of 17 digits":     {Tree: idLow + "0"},
		"Tree in capitals":      {Tree: strings.ToUpper(idLow)},
		"Tree with a blank":     {Tree: idLow[:15] + " "},
		"parent of 0 digits":    {Tree: idLow, Parents: []string{""}},
		"parent of 15 digits":   {Tree: idLow, Parents: []string{idLow[:15]}},
		"parent of 17 digits":   {Tree: idLow, Parents: []string{idLow + "0"}},
		"parent with a g":       {Tree: idLow, Parents: []string{idLow[:15] + "g"}},
		"second of 15 digits":   {Tree: idLow, Parents: []string{idLow, idHigh[:15]}},
		"second of 17 digits":   {Tree: idLow, Parents: []string{idLow, idHigh + "0"}},
		"first of two is none":  {Tree: idLow, Parents: []string{"", idHigh}},
		"parents fall":          {Tree: idLow, Parents: []string{idHigh, idLow}},
		"parents alike":         {Tree: idLow, Parents: []string{idHigh, idHigh}},
		"three parents":         {Tree: idLow, Parents: []string{idLow, idMid, idHigh}},
		"many parents":          {Tree: idLow, Parents: make([]string, 1000)},
		"note of 41 bytes":      {Tree: idLow, Note: strings.Repeat("x", 41)},
		"note of 100000 bytes":  {Tree: idLow, Note: strings.Repeat("x", 100000)},
		"byte 31":               {Tree: idLow, Note: "\x1f"},
		"byte 127":              {Tree: idLow, Note: "\x7f"},
		"byte 10 at the end":    {Tree: idLow, Note: "x\n"},
		"byte 0":                {Tree: idLow, Note: "\x00"},
		"a letter of two bytes": {Tree: idLow, Note: "\xc3\xa4"},
	}
}

func TestCommitOk(t *testing.T) {
	for name, c := range rightCommits() {
		if !impl.CommitOk(c) {
			t.Errorf("%s: CommitOk tells false", name)
		}
	}
	for name, c := range wrongCommits() {
		if impl.CommitOk(c) {
			t.Errorf("%s: CommitOk tells true", name)
		}
	}
	for b := range 256 {
		for _, note := range []string{string([]byte{byte(b)}), string([]byte{'x', byte(b), 'x'}), strings.Repeat("x", 39) + string([]byte{byte(b)})} {
			if got := impl.CommitOk(impl.Commit{Tree: idLow, Note: note}); got != (b >= 32 && b <= 126) {
				t.Errorf("note %q: CommitOk tells %v", note, got)
			}
		}
	}
}

func TestCommitText(t *testing.T) {
	for _, c := range []struct {
		commit impl.Commit
		want   string
	}{
		{impl.Commit{Tree: idLow}, "commit 0123456789abcdef\n"},
		{impl.Commit{Tree: idLow, Note: " a  note "}, "commit 0123456789abcdef\n a  note "},
		{impl.Commit{Tree: idMid, Parents: []string{idLow}, Note: "x"}, "commit 5555555555555555 0123456789abcdef\nx"},
		{impl.Commit{Tree: idMid, Parents: []string{idLow, idHigh}, Note: "x"}, "commit 5555555555555555 0123456789abcdef fedcba9876543210\nx"},
	} {
		if s := impl.CommitText(c.commit); s != c.want {
			t.Errorf("%q: CommitText tells %q", c.want, s)
		}
	}
	for name, c := range wrongCommits() {
		if s := impl.CommitText(c); s != "" {
			t.Errorf("%s: CommitText tells %q", name, s)
		}
	}
}

func TestCommitsComeBackFromTheirTexts(t *testing.T) {
	for name, c := range rightCommits() {
		s := impl.CommitText(c)
		if s != commitText(c.Tree, c.Note, c.Parents...) {
			t.Errorf("%s: CommitText tells %q", name, s)
		}
		if n, ok := impl.ReadCommit(s); !ok || !sameCommit(n, c) {
			t.Errorf("%s: ReadCommit tells %q, %v", name, n, ok)
		}
	}
}

func TestReadCommitRefusesOtherTexts(t *testing.T) {
	for name, c := range wrongCommits() {
		if n, ok := impl.ReadCommit(commitText(c.Tree, c.Note, c.Parents...)); ok || !isZero(n) {
			t.Errorf("%s: ReadCommit tells %q, %v", name, n, ok)
		}
	}
	for _, s := range []string{
		"", "c", "commit", "commit ", "commit \n", "commit\n", "\n", "map\n", treeA,
		"commit " + idLow, "commit " + idLow + " ", "commit " + idLow + " \n", "commit " + idLow + "  \n",
		"commit  " + idLow + "\n", " commit " + idLow + "\n", "Commit " + idLow + "\n", "commit\t" + idLow + "\n",
		"commit" + idLow + "\n", "commit " + idLow + "\r\n", "commit " + idLow + idMid + "\n",
		"commit " + idLow + "  " + idMid + "\n", "commit " + idLow + " " + idMid + " \n", "commit " + idLow + " " + idMid + "  " + idHigh + "\n",
		"commit " + idLow + " " + idMid, "commit " + idLow + " " + idMid + " " + idHigh, "commit " + idLow + " x",
		"commit " + idLow + strings.Repeat(" "+idMid, 100000) + "\n", strings.Repeat("commit ", 100000),
	} {
		if n, ok := impl.ReadCommit(s); ok || !isZero(n) {
			t.Errorf("%.80q: ReadCommit tells %q, %v", s, n, ok)
		}
	}
}

// Every text that is one byte off a commit's, held against the form that the document gives.
func TestReadCommitOfTextsNearby(t *testing.T) {
	form := regexp.MustCompile(`^commit [0-9a-f]{16}((?: [0-9a-f]{16}){0,2})\n[ -~]{0,40}$`)
	check := func(s string) {
		want := form.MatchString(s)
		if want {
			parents := strings.Fields(form.FindStringSubmatch(s)[1])
			want = len(parents) < 2 || parents[0] < parents[1]
		}
		c, ok := impl.ReadCommit(s)
		if ok != want || !ok && !isZero(c) || ok && commitText(c.Tree, c.Note, c.Parents...) != s {
			t.Fatalf("%q: ReadCommit tells %q, %v", s, c, ok)
		}
	}
	for _, c := range rightCommits() {
		s := commitText(c.Tree, c.Note, c.Parents...)
		for at := range len(s) + 1 {
			check(s[:at])
			check(s[at:])
			for _, b := range "\x00\t\n\x1f 0aFfgm=~\x7f" {
				check(s[:at] + string(b) + s[at:])
				if at < len(s) {
					check(s[:at] + string(b) + s[at+1:])
				}
			}
			if at < len(s) {
				check(s[:at] + s[at+1:])
			}
		}
	}
}

// The objects here are right, but no repository: CommitAt and MapAt ask for no more.
func TestCommitAtAndMapAt(t *testing.T) {
	first := commitText(idOf(treeA), "first")
	cases := []struct {
		name, text string
		hasMap     bool
		want       string
	}{
		{"first", first, true, "a=1\n"},
		{"no pairs", commitText(idOf("map\n"), "none"), true, ""},
		{"parent that is not there", commitText(idOf(treeB), "far", idMid), true, "b=2\n"},
		{"no such Tree", commitText(idMid, "lost"), false, ""},
		{"Tree is a commit", commitText(idOf(first), "odd"), false, ""},
		{"Tree is another text", commitText(idOf("abc"), "odd"), false, ""},
		{"Tree is empty", commitText(idOf(""), "odd"), false, ""},
		{"Tree is no right map", commitText(idOf("map\nb=1\na=1\n"), "odd"), false, ""},
		{"Tree is not ended", commitText(idOf("map\na=1"), "odd"), false, ""},
		{"Tree is a map's text alone", commitText(idOf("a=1\n"), "odd"), false, ""},
	}
	all := []string{treeA, treeB, "map\n", "abc", "", "map\nb=1\na=1\n", "map\na=1", "a=1\n"}
	for _, c := range cases {
		all = append(all, c.text)
	}
	l := objsOf(all...)
	for _, c := range cases {
		commit, ok := impl.CommitAt(l, idOf(c.text))
		if !ok || commitText(commit.Tree, commit.Note, commit.Parents...) != c.text {
			t.Errorf("%s: CommitAt tells %q, %v", c.name, commit, ok)
		}
		m, ok := impl.MapAt(l, idOf(c.text))
		if ok != c.hasMap || impl.MapText(m) != c.want || !ok && len(m) != 0 {
			t.Errorf("%s: MapAt tells %q, %v", c.name, m, ok)
		}
	}
	for _, id := range []string{idOf(treeA), idOf("map\n"), idOf("abc"), idOf(""), idOf("none"), "", "first", idOf(first)[:15], idOf(first) + "0"} {
		if commit, ok := impl.CommitAt(l, id); ok || !isZero(commit) {
			t.Errorf("%q: CommitAt tells %q, %v", id, commit, ok)
		}
		if m, ok := impl.MapAt(l, id); ok || len(m) != 0 {
			t.Errorf("%q: MapAt tells %q, %v", id, m, ok)
		}
	}
}

func TestCommitAtAndMapAtRefuseWhatIsNotRight(t *testing.T) {
	first := commitText(idOf(treeA), "first")
	right := objsOf(treeA, first)
	for name, l := range map[string][]impl.Obj{
		"ids fall":        {right[1], right[0]},
		"one twice":       {right[0], right[1], right[1]},
		"another text":    append(slices.Clone(right), impl.Obj{Id: "ffffffffffffffff", Text: ""}),
		"61 objects":      objsOf(append(texts(59), treeA, first)...),
		"2001 bytes":      objsOf(treeA, first, strings.Repeat("x", 2001)),
		"text under \"\"": append([]impl.Obj{{Text: strings.Repeat("x", 2001)}}, right...),
	} {
		if c, ok := impl.CommitAt(l, idOf(first)); ok || !isZero(c) {
			t.Errorf("%s: CommitAt tells %q, %v", name, c, ok)
		}
		if m, ok := impl.MapAt(l, idOf(first)); ok || len(m) != 0 {
			t.Errorf("%s: MapAt tells %q, %v", name, m, ok)
		}
	}
}

// A history with each number of parents; behind each step all of it is held
// against objects that are put together by hand.
func TestCommitted(t *testing.T) {
	a, b := []impl.Pair{{Key: "a", Val: "1"}}, []impl.Pair{{Key: "b", Val: "2"}}
	first := commitText(idOf(treeA), "first")
	second := commitText(idOf(treeB), "", idOf(first))
	third := commitText(idOf("map\n"), strings.Repeat("~", 40), idOf(first))
	fourth := commitText(idOf(treeA), " both ", parents(second, third)...)
	var l []impl.Obj
	var all []string
	for _, c := range []struct {
		m       []impl.Pair
		parents []string
		tree    string
		text    string
	}{
		{a, nil, treeA, first},
		{b, parents(first), treeB, second},
		{nil, parents(first), "map\n", third},
		{a, parents(second, third), treeA, fourth},
		{a, []string{}, treeA, commitText(idOf(treeA), "another start")},
		{a, parents(fourth), treeA, commitText(idOf(treeA), "the same map", idOf(fourth))},
		{b, parents(first), treeB, second},
	} {
		_, note, _ := strings.Cut(c.text, "\n")
		n, id, ok := impl.Committed(l, c.m, c.parents, note)
		all = append(all, c.tree, c.text)
		if !ok || id != idOf(c.text) || !slices.Equal(n, objsOf(all...)) {
			t.Fatalf("%q: Committed tells %q, %q, %v", c.text, n, id, ok)
		}
		commit, ok := impl.CommitAt(n, id)
		if !ok || commit.Note != note || !slices.Equal(commit.Parents, c.parents) || commit.Tree != idOf(c.tree) {
			t.Errorf("%q: CommitAt tells %q, %v", c.text, commit, ok)
		}
		if m, ok := impl.MapAt(n, id); !ok || !slices.Equal(m, c.m) {
			t.Errorf("%q: MapAt tells %q, %v", c.text, m, ok)
		}
		if !impl.RepoOk(n) {
			t.Errorf("%q: RepoOk tells false", c.text)
		}
		l = n
	}
}

func TestCommittedKeepsWidestMaps(t *testing.T) {
	widest := numbered(40)
	for i := range widest {
		widest[i].Key += "abcde"
		widest[i].Val = "=== ~~~ ===="
	}
	l, id, ok := impl.Committed(nil, widest, nil, "wide")
	if m, there := impl.MapAt(l, id); !ok || !there || !slices.Equal(m, widest) {
		t.Errorf("Committed tells %v, MapAt %q, %v", ok, m, there)
	}
}

func TestCommittedAtSixtyObjects(t *testing.T) {
	m := []impl.Pair{{Key: "a", Val: "1"}}
	first := commitText(idOf(treeA), "first")
	for _, c := range []struct {
		name   string
		before []string
		want   bool
	}{
		{"58, both new", trees(58), true},
		{"59, both new", trees(59), false},
		{"60, both new", trees(60), false},
		{"59 with the tree", append(trees(58), treeA), true},
		{"60 with the tree", append(trees(59), treeA), false},
		{"60 with both", append(trees(58), treeA, first), true},
	} {
		l, id, ok := impl.Committed(objsOf(c.before...), m, nil, "first")
		if ok != c.want {
			t.Errorf("%s: Committed tells %v", c.name, ok)
		}
		if ok && (id != idOf(first) || !slices.Equal(l, objsOf(append(c.before, treeA, first)...))) {
			t.Errorf("%s: Committed tells %q, %q", c.name, l, id)
		}
		if !ok && (id != "" || len(l) != 0) {
			t.Errorf("%s: Committed tells %q, %q, %v", c.name, l, id, ok)
		}
	}
}

func TestCommittedRefuses(t *testing.T) {
	first := commitText(idOf(treeA), "first")
	second := commitText(idOf(treeA), "second")
	third := commitText(idOf(treeA), "third")
	l := objsOf(treeA, first, second, third)
	m := []impl.Pair{{Key: "a", Val: "1"}}
	both := parents(first, second)
	fallen := []string{both[1], both[0]}
	for _, c := range []struct {
		name    string
		m       []impl.Pair
		parents []string
		note    string
	}{
		{"keys fall", []impl.Pair{{Key: "b"}, {Key: "a"}}, nil, ""},
		{"key is none", []impl.Pair{{Key: "A"}}, nil, ""},
		{"value too long", []impl.Pair{{Key: "a", Val: "1234567890123"}}, nil, ""},
		{"41 pairs", numbered(41), nil, ""},
		{"parent is a tree", m, parents(treeA), ""},
		{"parent is not there", m, parents("none"), ""},
		{"parent is no id", m, []string{""}, ""},
		{"parent of 15 digits", m, []string{idOf(first)[:15]}, ""},
		{"parent of 17 digits", m, []string{idOf(first) + "0"}, ""},
		{"first parent is not there", m, []string{"0000000000000000", idOf(first)}, ""},
		{"second parent is not there", m, []string{idOf(first), "ffffffffffffffff"}, ""},
		{"second parent is a tree", m, parents(first, treeA), ""},
		{"parents alike", m, parents(first, first), ""},
		{"parents fall", m, fallen, ""},
		{"three parents", m, parents(first, second, third), ""},
		{"note of 41 bytes", m, both, strings.Repeat("x", 41)},
		{"byte 10", m, both, "\n"},
		{"byte 31", m, both, "\x1f"},
		{"byte 127", m, both, "x\x7f"},
	} {
		if n, id, ok := impl.Committed(l, c.m, c.parents, c.note); ok || id != "" || len(n) != 0 {
			t.Errorf("%s: Committed tells %q, %q, %v", c.name, n, id, ok)
		}
	}
	if n, id, ok := impl.Committed(l, m, both, "\x20\x7e"); !ok || id != idOf(commitText(idOf(treeA), " ~", both...)) || len(n) != 5 {
		t.Errorf("bytes 32 and 126: Committed tells %q, %q, %v", n, id, ok)
	}
}

func TestCommittedRefusesWhatIsNoRepository(t *testing.T) {
	m := []impl.Pair{{Key: "a", Val: "1"}}
	first := commitText(idOf(treeA), "first")
	for name, list := range notRightRepos() {
		for _, ids := range [][]string{nil, parents(first)} {
			if n, id, ok := impl.Committed(objsOf(list...), m, ids, "more"); ok || id != "" || len(n) != 0 {
				t.Errorf("%s: Committed behind %q tells %q, %q, %v", name, ids, n, id, ok)
			}
		}
	}
	for name, l := range notRightTreesAndCommits() {
		if n, id, ok := impl.Committed(l, m, nil, "more"); ok || id != "" || len(n) != 0 {
			t.Errorf("%s: Committed tells %q, %q, %v", name, n, id, ok)
		}
	}
}

func TestCommitCallsLeaveTheirArguments(t *testing.T) {
	first := commitText(idOf(treeA), "first")
	second := commitText(idOf(treeA), "second", idOf(first))
	for _, l := range [][]impl.Obj{nil, objsOf(treeA, first, second), objsOf("abc")} {
		for _, ids := range [][]string{nil, parents(first), parents(first, second), {"z", "a"}} {
			objs, pairs := newRoomy(l, spareObj), newRoomy(numbered(3), sparePair)
			given := newRoomy(ids, "spare")
			n, _, _ := impl.Committed(objs.list(), pairs.list(), given.list(), "more")
			spoil(n, spareObj)
			c, _ := impl.CommitAt(objs.list(), idOf(second))
			spoil(c.Parents, "spoilt")
			m, _ := impl.MapAt(objs.list(), idOf(second))
			spoil(m, sparePair)
			impl.CommitText(impl.Commit{Tree: idLow, Parents: given.list()})
			impl.CommitOk(impl.Commit{Tree: idLow, Parents: given.list()})
			objs.check(t, "a call of commits")
			pairs.check(t, "Committed")
			given.check(t, "a call of commits")
		}
	}
}

func TestCommitCallsAnswerTheSameAgain(t *testing.T) {
	first := commitText(idOf(treeA), "first")
	second := commitText(idOf(treeA), "second", idOf(first))
	l := objsOf(treeA, first, second)
	for range 20 {
		c, ok := impl.ReadCommit(second)
		if !ok || !slices.Equal(c.Parents, parents(first)) {
			t.Errorf("ReadCommit tells %q, %v", c, ok)
		}
		spoil(c.Parents, "spoilt")
		c, ok = impl.CommitAt(l, idOf(second))
		if !ok || !slices.Equal(c.Parents, parents(first)) {
			t.Errorf("CommitAt tells %q, %v", c, ok)
		}
		spoil(c.Parents, "spoilt")
		n, _, _ := impl.Committed(l, nil, nil, "more")
		if !slices.Equal(n, objsOf(treeA, first, second, "map\n", commitText(idOf("map\n"), "more"))) {
			t.Errorf("Committed tells %q", n)
		}
		spoil(n, spareObj)
	}
}

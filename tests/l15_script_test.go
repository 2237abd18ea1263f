package tests

import (
	"fmt"
	"maps"
	"regexp"
	"slices"
	"strings"
	"sync"
	"testing"

	"loop.example/g00652/impl"
)

var (
	rightKey  = regexp.MustCompile(`^[a-z0-9]{1,8}$`)
	rightVal  = regexp.MustCompile(`^[ -~]{0,12}$`)
	rightNote = regexp.MustCompile(`^[ -~]{0,40}$`)
)

// teller is what the lines so far have come to, as the document has it; refs
// are places of commits.
type teller struct {
	g      graph
	refs   map[string]int
	branch string
	vals   map[string]string
}

// told is RunScript as the document has it, and what its lines have come to.
func told(t *testing.T, script string) (string, teller) {
	t.Helper()
	s := teller{refs: map[string]int{}, branch: "main", vals: map[string]string{}}
	lines := strings.Split(script, "\n")
	if len(script) > 4000 || len(lines) > 41 || lines[len(lines)-1] != "" {
		return "too long\n", s
	}
	out := ""
	for _, line := range lines {
		if words := wordsIn(line); len(words) > 0 {
			out += s.says(t, words) + "\n"
		}
	}
	return out, s
}

func wordsIn(line string) []string {
	var words []string
	for _, word := range strings.Split(line, " ") {
		if word != "" {
			words = append(words, word)
		}
	}
	return words
}

func (s *teller) says(t *testing.T, words []string) string {
	t.Helper()
	behind := words[1:]
	switch fmt.Sprintf("%s/%d", words[0], len(behind)) {
	case "put/2":
		return s.puts(behind[0], behind[1])
	case "drop/1":
		return s.drops(behind[0])
	case "commit/1":
		return s.commits(behind[0])
	case "branch/1":
		return s.branches(behind[0])
	case "switch/1":
		return s.switches(t, behind[0])
	case "merge/1":
		return s.merges(t, behind[0])
	case "show/0":
		return s.shows()
	case "log/0":
		return s.logs()
	}
	return "what"
}

func (s *teller) puts(key, val string) string {
	if !rightKey.MatchString(key) || !rightVal.MatchString(val) || len(s.vals) == 40 && !has(s.vals, key) {
		return "no"
	}
	s.vals[key] = val
	return "ok"
}

func (s *teller) drops(key string) string {
	if !has(s.vals, key) {
		return "no"
	}
	delete(s.vals, key)
	return "ok"
}

// grows has the branch name a commit of m, unless there is no room for it or
// another text has its id.
func (s *teller) grows(m []impl.Pair, note string, places ...int) string {
	g := s.g
	g.grow(strings.TrimPrefix(treeOf(m), "map\n"), note, places)
	at := len(g.ids) - 1
	byId := map[string]string{}
	for _, text := range g.texts {
		if was, there := byId[idOf(text)]; there && was != text {
			return "no"
		}
		byId[idOf(text)] = text
	}
	if len(byId) > 60 || len(m) > 40 {
		return "no"
	}
	if was := slices.Index(g.ids, g.ids[at]); was < at {
		// It is there already.
		g, at = s.g, was
	}
	s.g, s.refs[s.branch], s.vals = g, at, valsOf(m)
	return "ok"
}

func (s *teller) commits(note string) string {
	if !rightNote.MatchString(note) {
		return "no"
	}
	if at, there := s.refs[s.branch]; there {
		return s.grows(pairsOf(s.vals), note, at)
	}
	return s.grows(pairsOf(s.vals), note)
}

func (s *teller) branches(name string) string {
	at, there := s.refs[s.branch]
	if _, taken := s.refs[name]; taken || !there || !rightKey.MatchString(name) || len(s.refs) == 20 {
		return "no"
	}
	s.refs[name] = at
	return "ok"
}

// stands has the branch name the commit at this place.
func (s *teller) stands(t *testing.T, at int) string {
	t.Helper()
	s.refs[s.branch], s.vals = at, valsOf(pairs(t, s.g.maps[at]))
	return "ok"
}

func (s *teller) switches(t *testing.T, name string) string {
	t.Helper()
	at, there := s.refs[name]
	if !there {
		return "no"
	}
	s.branch = name
	return s.stands(t, at)
}

func (s *teller) merges(t *testing.T, name string) string {
	t.Helper()
	a, there := s.refs[s.branch]
	b, too := s.refs[name]
	if !there || !too {
		return "no"
	}
	behind := s.g.behind()
	if behind[a][b] {
		return s.stands(t, a)
	}
	if behind[b][a] {
		return s.stands(t, b)
	}
	m, keys := s.g.mergerAt(t, behind, a, b)
	if len(keys) > 0 && len(m) <= 40 {
		return "clash " + strings.Join(keys, " ")
	}
	return s.grows(m, "merge", a, b)
}

func (s *teller) shows() string {
	out := "show " + s.branch
	for _, key := range slices.Sorted(maps.Keys(s.vals)) {
		out += " " + key + "=" + s.vals[key]
	}
	return out
}

func (s *teller) logs() string {
	out := "log"
	if at, there := s.refs[s.branch]; there {
		for _, id := range s.g.log(s.g.behind(), at) {
			out += " " + s.g.noteAt(slices.Index(s.g.ids, id))
		}
	}
	return out
}

// script is of these lines, each ended.
func script(lines ...string) string {
	return strings.Join(append(lines, ""), "\n")
}

// checkScript asks for what the document has, and tells it.
func checkScript(t *testing.T, name, text string) string {
	t.Helper()
	want, _ := told(t, text)
	if got := impl.RunScript(text); got != want {
		t.Errorf("%s: of %.500q RunScript says %.500q, not %.500q", name, text, got, want)
	}
	return want
}

// checkPromise asks of the answers alone that what was said stays said.
func checkPromise(t *testing.T, name, text string) {
	t.Helper()
	whole := strings.SplitAfter(impl.RunScript(text), "\n")
	lines := strings.SplitAfter(text, "\n")
	said := 0
	for i, line := range lines {
		ahead := impl.RunScript(strings.Join(lines[:i], ""))
		if want := strings.Join(whole[:said], ""); ahead != want {
			t.Errorf("%s: with %d lines RunScript says %q, with all of them %q ahead", name, i, ahead, want)
		}
		if i < len(lines)-1 && len(lines) <= 40 {
			checkAsks(t, name, lines, i, whole, said)
		}
		if strings.Trim(line, " \n") != "" {
			said++
		}
	}
	if len(whole) != said+1 {
		t.Errorf("%s: %d lines say %d", name, said, len(whole)-1)
	}
}

// checkAsks puts one more line ahead of line i, which asks, and leaves out what
// that says.
func checkAsks(t *testing.T, name string, lines []string, i int, whole []string, said int) {
	t.Helper()
	for _, ask := range []string{"show\n", "log\n", "  \n", "fly\n", "show it\n", "put a\n", "put A 1\n", "switch none\n", "merge none\n"} {
		text := strings.Join(slices.Insert(slices.Clone(lines), i, ask), "")
		got := strings.SplitAfter(impl.RunScript(text), "\n")
		if ask != "  \n" {
			got = slices.Delete(got, min(said, len(got)-1), min(said+1, len(got)))
		}
		if !slices.Equal(got, whole) {
			t.Errorf("%s: with %q ahead of line %d the others say %q, not %q", name, ask, i, got, whole)
		}
	}
}

// talk is a script with what it says, which is written down here: in each of its
// lines a line of the script, ->, and what that says.
type talk struct {
	name string
	text string
}

func (k talk) split() (text, want string) {
	for line := range strings.Lines(strings.TrimSpace(k.text)) {
		ask, says, _ := strings.Cut(strings.Trim(line, "\t\n"), " -> ")
		text += ask + "\n"
		want += says + "\n"
	}
	return text, want
}

func (k talk) check(t *testing.T) {
	t.Helper()
	text, want := k.split()
	if got := impl.RunScript(text); got != want {
		t.Errorf("%s: of %q RunScript says %q, not %q", k.name, text, got, want)
	}
	checkScript(t, k.name, text)
	checkPromise(t, k.name, text)
}

func TestScriptLimits(t *testing.T) {
	if impl.MaxScript != 40 || impl.MaxLines != 4000 {
		t.Errorf("MaxScript is %d, MaxLines %d", impl.MaxScript, impl.MaxLines)
	}
}

func TestEachLineAlone(t *testing.T) {
	for line, says := range map[string]string{
		"put a 1":     "ok",
		"put a":       "what",
		"drop a":      "no",
		"commit one":  "ok",
		"branch dev":  "no",
		"branch main": "no",
		"switch main": "no",
		"switch dev":  "no",
		"merge main":  "no",
		"merge dev":   "no",
		"show":        "show main",
		"log":         "log",
		"fly":         "what",
	} {
		talk{"alone", line + " -> " + says}.check(t)
	}
}

// The order of notes of one depth is by ids, which never change.
func TestTalks(t *testing.T) {
	for _, k := range []talk{
		{"one behind the other", `
			put b 2 -> ok
			put a 1 -> ok
			show -> show main a=1 b=2
			drop b -> ok
			show -> show main a=1
			commit one -> ok
			log -> log one
			branch dev -> ok
			show -> show main a=1
			switch dev -> ok
			show -> show dev a=1
			put c 3 -> ok
			commit two -> ok
			show -> show dev a=1 c=3
			log -> log two one
			switch main -> ok
			show -> show main a=1
			log -> log one
			merge dev -> ok
			show -> show main a=1 c=3
			log -> log two one`},
		{"a branch goes its own way and takes in main", `
			put a 1 -> ok
			put b 1 -> ok
			commit one -> ok
			branch dev -> ok
			put a 2 -> ok
			commit two -> ok
			switch dev -> ok
			drop b -> ok
			put c 3 -> ok
			commit three -> ok
			commit four -> ok
			merge main -> ok
			show -> show dev a=2 c=3
			log -> log merge four two three one
			switch main -> ok
			show -> show main a=2 b=1
			log -> log two one
			merge dev -> ok
			show -> show main a=2 c=3
			log -> log merge four two three one`},
		{"a branch goes its own way and main takes it in", `
			put a 1 -> ok
			put b 1 -> ok
			commit one -> ok
			branch dev -> ok
			put a 2 -> ok
			commit two -> ok
			switch dev -> ok
			drop b -> ok
			put c 3 -> ok
			commit three -> ok
			commit four -> ok
			switch main -> ok
			merge dev -> ok
			show -> show main a=2 c=3
			log -> log merge four two three one
			switch dev -> ok
			show -> show dev a=1 c=3
			log -> log four three one
			merge main -> ok
			show -> show dev a=2 c=3
			log -> log merge four two three one`},
		{"one merger, whichever is first", `
			commit one -> ok
			branch a -> ok
			branch b -> ok
			switch a -> ok
			put x 1 -> ok
			commit two -> ok
			branch aa -> ok
			switch b -> ok
			put y 1 -> ok
			commit three -> ok
			branch bb -> ok
			switch a -> ok
			merge b -> ok
			switch bb -> ok
			merge aa -> ok
			show -> show bb x=1 y=1
			merge a -> ok
			commit four -> ok
			merge a -> ok
			log -> log four merge three two one`},
		{"a clash", `
			put b 1 -> ok
			put c 1 -> ok
			put d 1 -> ok
			commit one -> ok
			branch dev -> ok
			put z 1 -> ok
			put b 2 -> ok
			drop c -> ok
			put d 2 -> ok
			put a 1 -> ok
			commit two -> ok
			switch dev -> ok
			put z 2 -> ok
			put b 3 -> ok
			put c 2 -> ok
			put d 2 -> ok
			put a 2 -> ok
			put e 2 -> ok
			commit three -> ok
			put f 4 -> ok
			merge main -> clash a b c z
			show -> show dev a=2 b=3 c=2 d=2 e=2 f=4 z=2
			log -> log three one
			drop f -> ok
			switch main -> ok
			show -> show main a=1 b=2 d=2 z=1
			merge dev -> clash a b c z
			log -> log two one
			put a 2 -> ok
			put b 3 -> ok
			put c 2 -> ok
			put z 2 -> ok
			merge dev -> clash a b c z
			commit four -> ok
			merge dev -> ok
			show -> show main a=2 b=3 c=2 d=2 e=2 z=2
			log -> log merge four three two one
			switch dev -> ok
			log -> log three one`},
		{"a clash is settled by the other one", `
			put a 1 -> ok
			commit one -> ok
			branch dev -> ok
			put a 2 -> ok
			commit two -> ok
			switch dev -> ok
			drop a -> ok
			commit three -> ok
			merge main -> clash a
			put a 1 -> ok
			merge main -> clash a
			commit four -> ok
			show -> show dev a=1
			merge main -> ok
			show -> show dev a=2`},
	} {
		k.check(t)
	}
}

func TestPutAndDropLines(t *testing.T) {
	for _, k := range []talk{
		{"over a key that is there", `
			put a 1 -> ok
			put b 1 -> ok
			put a 2 -> ok
			show -> show main a=2 b=1
			put a 2 -> ok
			show -> show main a=2 b=1`},
		{"keys and values", `
			put abcdefgh 123456789012 -> ok
			put abcdefghi 1 -> no
			put 0 ! -> ok
			put 9 ~ -> ok
			put z = -> ok
			put a a=b -> ok
			put a 1234567890123 -> no
			put A 1 -> no
			put a=b 1 -> no
			put a_b 1 -> no
			put Z 1 -> no
			put - 1 -> no
			put put put -> ok
			show -> show main 0=! 9=~ a=a=b abcdefgh=123456789012 put=put z==`},
		{"keys that are not there", `
			drop a -> no
			put a 1 -> ok
			drop A -> no
			drop aa -> no
			drop = -> no
			drop a=1 -> no
			drop b -> no
			show -> show main a=1
			drop a -> ok
			drop a -> no
			show -> show main
			put a 2 -> ok
			drop a -> ok
			show -> show main`},
		{"dropped and committed", `
			put a 1 -> ok
			commit one -> ok
			drop a -> ok
			commit two -> ok
			drop a -> no
			show -> show main
			log -> log two one`},
	} {
		k.check(t)
	}
}

func TestCommitLines(t *testing.T) {
	forty := strings.Repeat("~", 40)
	for _, k := range []talk{
		{"notes", `
			commit -> what
			commit ` + forty + ` -> ok
			commit ` + forty + `~ -> no
			commit ! -> ok
			commit commit -> ok
			commit a b -> what
			commit merge -> ok
			log -> log merge commit ! ` + forty},
		{"a note that is none", `
			put a 1 -> ok
			commit ` + forty + `x -> no
			log -> log
			show -> show main a=1
			branch dev -> no
			switch main -> no
			merge main -> no
			commit one -> ok
			put a 2 -> ok
			commit ` + forty + `x -> no
			show -> show main a=2
			log -> log one
			switch main -> ok
			show -> show main a=1`},
		{"ahead of any map", `
			commit one -> ok
			show -> show main
			log -> log one
			put a 1 -> ok
			switch main -> ok
			show -> show main`},
		{"twice with the same map and note", `
			put a 1 -> ok
			commit one -> ok
			commit one -> ok
			log -> log one one
			put a 1 -> ok
			commit one -> ok
			log -> log one one one
			branch dev -> ok
			commit one -> ok
			log -> log one one one one
			switch dev -> ok
			log -> log one one one`},
		// Both branches name that very commit then, so that there is no merger.
		{"a commit that is there already", `
			commit one -> ok
			branch dev -> ok
			put a 1 -> ok
			commit two -> ok
			switch dev -> ok
			put a 1 -> ok
			commit two -> ok
			log -> log two one
			merge main -> ok
			log -> log two one
			put a 2 -> ok
			commit three -> ok
			merge main -> ok
			log -> log three two one`},
		{"what was not committed stays behind a commit that is none", `
			put a 1 -> ok
			put b 1 -> ok
			commit one -> ok
			drop a -> ok
			commit a b -> what
			show -> show main b=1
			commit two -> ok
			show -> show main b=1`},
	} {
		k.check(t)
	}
}

func TestBranchLines(t *testing.T) {
	for _, k := range []talk{
		{"ahead of any commit", `
			branch dev -> no
			branch main -> no
			put a 1 -> ok
			branch dev -> no
			switch dev -> no
			commit one -> ok
			branch dev -> ok
			switch dev -> ok`},
		{"a name that is none", `
			commit one -> ok
			branch Dev -> no
			branch devdevde -> ok
			branch devdevdev -> no
			branch a-b -> no
			branch = -> no
			branch 0 -> ok
			branch -> what
			branch a b -> what
			switch devdevdev -> no
			switch devdevde -> ok
			switch 0 -> ok`},
		{"a name that is there", `
			put a 1 -> ok
			commit one -> ok
			branch main -> no
			branch dev -> ok
			branch dev -> no
			put a 2 -> ok
			commit two -> ok
			branch dev -> no
			branch main -> no
			switch dev -> ok
			show -> show dev a=1
			log -> log one`},
		{"it names what the branch does, and the branch is as it was", `
			put a 1 -> ok
			commit one -> ok
			put a 2 -> ok
			branch dev -> ok
			show -> show main a=2
			commit two -> ok
			branch two -> ok
			switch dev -> ok
			show -> show dev a=1
			branch one -> ok
			switch two -> ok
			show -> show two a=2
			switch one -> ok
			show -> show one a=1
			put a 3 -> ok
			commit three -> ok
			switch dev -> ok
			show -> show dev a=1
			log -> log one`},
	} {
		k.check(t)
	}
}

// There is room for main and 19 more.
func TestBranchesAtTwentyRefs(t *testing.T) {
	lines := []string{"commit one"}
	want := []string{"ok"}
	for i := range 19 {
		lines, want = append(lines, fmt.Sprint("branch b", i)), append(want, "ok")
	}
	lines = append(lines, "branch more", "switch more", "branch b0", "commit two", "branch more", "switch b18", "log", "branch again", "merge main", "log", "merge more", "show")
	want = append(want, "no", "no", "no", "ok", "no", "ok", "log one", "no", "ok", "log two one", "no", "show b18")
	text := script(lines...)
	if got := impl.RunScript(text); got != script(want...) {
		t.Errorf("RunScript says %q, not %q", got, want)
	}
	checkScript(t, "20 refs", text)
	checkPromise(t, "20 refs", text)
}

func TestSwitchLines(t *testing.T) {
	for _, k := range []talk{
		{"to the branch that it is", `
			switch main -> no
			put a 1 -> ok
			switch main -> no
			show -> show main a=1
			commit one -> ok
			put b 2 -> ok
			drop a -> ok
			switch main -> ok
			show -> show main a=1
			log -> log one`},
		{"to one that is not there", `
			commit one -> ok
			branch dev -> ok
			put a 1 -> ok
			switch none -> no
			switch Main -> no
			switch mai -> no
			switch maine -> no
			switch -> what
			switch dev main -> what
			show -> show main a=1`},
		{"what was not committed is lost", `
			put a 1 -> ok
			commit one -> ok
			branch dev -> ok
			put a 2 -> ok
			put b 2 -> ok
			switch dev -> ok
			show -> show dev a=1
			drop a -> ok
			switch main -> ok
			show -> show main a=1
			commit two -> ok
			show -> show main a=1
			log -> log two one`},
		{"to and fro", `
			put a 1 -> ok
			commit one -> ok
			branch dev -> ok
			put a 2 -> ok
			commit two -> ok
			switch dev -> ok
			put a 3 -> ok
			commit three -> ok
			switch main -> ok
			show -> show main a=2
			log -> log two one
			switch dev -> ok
			show -> show dev a=3
			log -> log three one
			switch dev -> ok
			show -> show dev a=3`},
	} {
		k.check(t)
	}
}

func TestMergeLines(t *testing.T) {
	for _, k := range []talk{
		{"with itself", `
			merge main -> no
			put a 1 -> ok
			merge main -> no
			show -> show main a=1
			commit one -> ok
			put a 2 -> ok
			merge main -> ok
			show -> show main a=1
			log -> log one`},
		{"one that is behind", `
			put a 1 -> ok
			commit one -> ok
			branch dev -> ok
			put a 2 -> ok
			commit two -> ok
			put a 3 -> ok
			merge dev -> ok
			show -> show main a=2
			log -> log two one
			switch dev -> ok
			log -> log one`},
		{"one that is ahead", `
			put a 1 -> ok
			commit one -> ok
			branch dev -> ok
			put a 2 -> ok
			commit two -> ok
			switch dev -> ok
			put a 3 -> ok
			merge main -> ok
			show -> show dev a=2
			log -> log two one
			commit three -> ok
			switch main -> ok
			log -> log two one`},
		{"one of the same commit", `
			put a 1 -> ok
			commit one -> ok
			branch dev -> ok
			put a 2 -> ok
			merge dev -> ok
			show -> show main a=1
			log -> log one`},
		{"B names nothing", `
			put a 1 -> ok
			commit one -> ok
			put a 2 -> ok
			merge none -> no
			merge Main -> no
			merge one -> no
			merge -> what
			merge main main -> what
			show -> show main a=2
			log -> log one`},
		{"the branch names nothing", `
			put a 1 -> ok
			merge none -> no
			merge main -> no
			show -> show main a=1
			log -> log`},
		{"what was not committed counts for nothing, and is lost", `
			commit one -> ok
			branch dev -> ok
			put a 1 -> ok
			commit two -> ok
			switch dev -> ok
			put b 1 -> ok
			commit three -> ok
			put a 2 -> ok
			put c 1 -> ok
			merge main -> ok
			show -> show dev a=1 b=1`},
		{"a merger of mergers", `
			commit one -> ok
			branch a -> ok
			branch b -> ok
			put m 1 -> ok
			commit two -> ok
			switch a -> ok
			put a 1 -> ok
			commit three -> ok
			merge main -> ok
			switch b -> ok
			put b 1 -> ok
			commit four -> ok
			merge main -> ok
			merge a -> ok
			show -> show b a=1 b=1 m=1
			put m 2 -> ok
			commit five -> ok
			switch a -> ok
			merge b -> ok
			show -> show a a=1 b=1 m=2
			switch main -> ok
			merge a -> ok
			show -> show main a=1 b=1 m=2`},
		{"all is dropped", `
			put a 1 -> ok
			put b 1 -> ok
			commit one -> ok
			branch dev -> ok
			drop a -> ok
			commit two -> ok
			switch dev -> ok
			drop b -> ok
			commit three -> ok
			merge main -> ok
			show -> show dev
			commit four -> ok
			show -> show dev`},
	} {
		k.check(t)
	}
}

func TestShowAndLogLines(t *testing.T) {
	for _, k := range []talk{
		{"nothing yet", `
			show -> show main
			log -> log
			put a 1 -> ok
			log -> log
			drop a -> ok
			show -> show main`},
		{"keys as bytes", `
			put b 1 -> ok
			put a1 1 -> ok
			put 9 1 -> ok
			put a 1 -> ok
			put 10 1 -> ok
			put a10 1 -> ok
			show -> show main 10=1 9=1 a=1 a1=1 a10=1 b=1`},
		{"a log of mergers stands by depths", `
			commit one -> ok
			branch dev -> ok
			put a 1 -> ok
			commit two -> ok
			put a 2 -> ok
			commit three -> ok
			switch dev -> ok
			put b 1 -> ok
			commit four -> ok
			log -> log four one
			merge main -> ok
			log -> log merge three two four one
			commit five -> ok
			log -> log five merge three two four one`},
	} {
		k.check(t)
	}
}

// One word too few, one too many, or a word that is none.
func TestLinesThatAreNone(t *testing.T) {
	for _, line := range []string{
		"put", "put a", "put a 1 2", "put a 1 put a 2", "drop", "drop a b", "commit", "commit one two",
		"branch", "branch b c", "switch", "switch dev main", "merge", "merge dev main", "show main", "show show", "log main", "log log",
		"fly", "what", "ok", "no", "clash", "clash a", "main", "dev", "too long", "Show", "SHOW", "Put a 1", "PUT a 1", "sho", "shows", "logs", "lo",
		"puts a 1", "pu a 1", "puta 1", "put=a 1", "a put 1", "a 1", "a=1", "1", "-", "put,a,1", "show;", ";", "#", "# show", "\"show\"", "add a 1", "checkout dev",
		"put/2 a 1", "show/0", "commits x", "branches x", "drops a",
	} {
		text := script("put a 1", "commit one", "branch dev", "put a 2", line, "show", "log", "switch dev", "show", "log")
		want := script("ok", "ok", "ok", "ok", "what", "show main a=2", "log one", "ok", "show dev a=1", "log one")
		if got := impl.RunScript(text); got != want {
			t.Errorf("%q: RunScript says %q", line, got)
		}
		if got := impl.RunScript(line + "\n"); got != "what\n" {
			t.Errorf("%q: RunScript says %q", line, got)
		}
	}
}

func TestBlanks(t *testing.T) {
	for text, want := range map[string]string{
		"":                                     "",
		"\n":                                   "",
		" \n":                                  "",
		"\n\n   \n":                            "",
		" show\n":                              "show main\n",
		"show \n":                              "show main\n",
		"   show   \n":                         "show main\n",
		"\n show\n \nlog \n\n":                 "show main\nlog\n",
		"  put   a    1 \n show\n":             "ok\nshow main a=1\n",
		"put a 1\n drop  a\nshow\n":            "ok\nok\nshow main\n",
		" commit  one  \nlog\n":                "ok\nlog one\n",
		"put  a\nput a  \n put\n":              "what\nwhat\nwhat\n",
		"commit   \nbranch  \nmerge \nswitch ": "too long\n",
		"s how\nsho w\n":                       "what\nwhat\n",
		"put a 1 \n \n\n  show\n   \n":         "ok\nshow main a=1\n",
	} {
		if got := impl.RunScript(text); got != want {
			t.Errorf("%q: RunScript says %q, not %q", text, got, want)
		}
		checkScript(t, "blanks", text)
	}
}

func TestForty(t *testing.T) {
	for name, line := range map[string]string{"show": "show", "none": "", "blanks": "  ", "log": "log", "commit": "commit x", "what": "fly", "put": "put a 1"} {
		for _, n := range []int{0, 1, 39, 40, 41, 42, 80, 400, 3000} {
			text := script(slices.Repeat([]string{line}, n)...)
			want := checkScript(t, fmt.Sprint(n, " lines, ", name), text)
			if got := impl.RunScript(text); (got == "too long\n") != (n > 40) {
				t.Errorf("%d lines, %s: RunScript says %q, not %q", n, name, got, want)
			}
		}
	}
	// Lines that say nothing are lines.
	full := strings.Repeat("\n", 39)
	for text, want := range map[string]string{
		full + "show\n":                             "show main\n",
		"show\n" + full:                             "show main\n",
		full + "\nshow\n":                           "too long\n",
		"show\n" + full + "\n":                      "too long\n",
		"show\n" + full + " ":                       "too long\n",
		"show\n" + full + "show":                    "too long\n",
		strings.Repeat(" \n", 40):                   "",
		strings.Repeat(" \n", 41):                   "too long\n",
		strings.Repeat("\n", 40):                    "",
		strings.Repeat("\n", 41):                    "too long\n",
		strings.Repeat("show\n", 20) + full[:19]:    strings.Repeat("show main\n", 20),
		strings.Repeat("show\n\n", 20):              strings.Repeat("show main\n", 20),
		strings.Repeat("show\n\n", 20) + "\n":       "too long\n",
		"put a 1\nshow\n" + strings.Repeat("\n", 9): "ok\nshow main a=1\n",
	} {
		if got := impl.RunScript(text); got != want {
			t.Errorf("%q: RunScript says %q, not %q", text, got, want)
		}
	}
}

func TestFourThousandBytes(t *testing.T) {
	for _, n := range []int{3998, 3999, 4000, 4001, 4002, 8000, 100000, 10000000} {
		for _, c := range []struct{ start, fill, end, says string }{
			{"", " ", "\n", ""},
			{"show", " ", "\n", "show main\n"},
			{"", " ", "show\n", "show main\n"},
			{"put", " ", "a 1\n", "ok\n"},
			{"", "x", "\n", "what\n"},
			{"put a ", "1", "\n", "no\n"},
			{"put ", "a", " 1\n", "no\n"},
			{"drop ", "a", "\n", "no\n"},
			{"commit ", "x", "\n", "no\n"},
			{"commit one\nbranch ", "b", "\n", "ok\nno\n"},
			{"commit one\nswitch ", "b", "\n", "ok\nno\n"},
			{"commit one\nmerge ", "main", "\n", "ok\nno\n"},
			{"", "\x00", "\n", "what\n"},
			{"", "0", "\n", "what\n"},
			{"", "x ", "\n", "what\n"},
			{"show\n", " ", "\nlog\n", "show main\nlog\n"},
		} {
			room := n - len(c.start) - len(c.end)
			text := c.start + strings.Repeat(c.fill, room/len(c.fill)+1)[:room] + c.end
			want := c.says
			if n > 4000 {
				want = "too long\n"
			}
			if got := impl.RunScript(text); len(text) != n || got != want {
				t.Errorf("%d bytes, %q %q %q: RunScript says %.100q, not %q", len(text), c.start, c.fill, c.end, got, want)
			}
		}
	}
	// 40 lines of 100 bytes each.
	line := "put a 1" + strings.Repeat(" ", 92) + "\n"
	if got := impl.RunScript(strings.Repeat(line, 40)); got != strings.Repeat("ok\n", 40) {
		t.Errorf("RunScript says %q", got)
	}
	if got := impl.RunScript(" " + strings.Repeat(line, 40)); got != "too long\n" {
		t.Errorf("RunScript says %q of one byte more", got)
	}
}

// Nothing else is said of a script that is too long, not even what its lines
// ahead would say.
func TestLastLinesThatAreNotEnded(t *testing.T) {
	for _, text := range []string{
		"show", " ", "x", "show\nlog", "show\n ", "\n ", "\n\nshow", "put a 1\ncommit one", "show\r", "show\n\x00", "\x00", "show\n\r",
		strings.Repeat("show\n", 39) + "show", strings.Repeat("show\n", 40) + "s", strings.Repeat(" ", 4000), strings.Repeat("x", 4001), "show\n" + strings.Repeat(" ", 3995),
	} {
		if got := impl.RunScript(text); got != "too long\n" {
			t.Errorf("%.100q: RunScript says %q", text, got)
		}
	}
}

// All bytes but a line feed, in each place of a line.
func TestBytes(t *testing.T) {
	for i := range 256 {
		b := string([]byte{byte(i)})
		if b == "\n" {
			continue
		}
		blank, letter, shown := b == " ", rightKey.MatchString(b), i > 32 && i < 127
		said := func(ok bool, yes, no string) string {
			if ok {
				return yes
			}
			return no
		}
		for line, want := range map[string]string{
			b:                  said(blank, "", "what"),
			b + b:              said(blank, "", "what"),
			b + "show":         said(blank, "show main a=1", "what"),
			"show" + b:         said(blank, "show main a=1", "what"),
			"sh" + b + "ow":    "what",
			"log " + b:         said(blank, "log one", "what"),
			"put" + b + "b 2":  said(blank, "ok", "what"),
			"put b" + b + "2":  said(blank, "ok", "what"),
			"put b " + b:       said(blank, "what", said(shown, "ok", "no")),
			"put b 2" + b:      said(blank || shown, "ok", "no"),
			"put " + b + " 2":  said(blank, "what", said(letter, "ok", "no")),
			"put b" + b + " 2": said(blank || letter, "ok", "no"),
			"drop a" + b:       said(blank, "ok", "no"),
			"drop " + b + "a":  said(blank, "ok", "no"),
			"commit " + b:      said(blank, "what", said(shown, "ok", "no")),
			"commit x" + b:     said(blank || shown, "ok", "no"),
			"commit" + b + "x": said(blank, "ok", "what"),
			"branch " + b:      said(blank, "what", said(letter, "ok", "no")),
			"branch b" + b:     said(blank || letter, "ok", "no"),
			"switch " + b:      said(blank, "what", "no"),
			"switch main" + b:  said(blank, "ok", "no"),
			"merge " + b:       said(blank, "what", "no"),
			"merge main" + b:   said(blank, "ok", "no"),
		} {
			text := script("put a 1", "commit one", line)
			if want != "" {
				want += "\n"
			}
			if got := impl.RunScript(text); got != "ok\nok\n"+want {
				t.Errorf("%q: RunScript says %q, not %q", line, got, want)
			}
			checkScript(t, "bytes", text)
		}
	}
}

func TestLinesThatAreNoText(t *testing.T) {
	for line, want := range map[string]string{
		"\t":                  "what",
		"\r":                  "what",
		"\tshow":              "what",
		"show\t":              "what",
		"show\r":              "what",
		"put\ta\t1":           "what",
		"put a\t1":            "what",
		"put a\t 1":           "no",
		"put a 1\r":           "no",
		"put a 1 \r":          "what",
		"commit x\r":          "no",
		"commit x\ty":         "no",
		"\v\f\u0085\u00a0":    "what",
		"put\u00a0a\u00a01":   "what",
		"put a \u00e4":        "no",
		"put \u00e4 1":        "no",
		"\u2003show":          "what",
		"\x00\x00\x00":        "what",
		"000":                 "what",
		"0 0 0":               "what",
		"put 0 0":             "ok",
		"put \x00 0":          "no",
		"put 0 \x00":          "no",
		"commit \x00":         "no",
		"\xff\xfe\xc0\xa0":    "what",
		"put a \xff":          "no",
		"show\x00":            "what",
		"\xe4 show":           "what",
		"show \xe4":           "what",
		"\xef\xbb\xbfshow":    "what",
		"put a 1\x00\x00":     "no",
		"commit \xc3\xa4":     "no",
		"branch \xc3":         "no",
		"merge main\x00":      "no",
		"switch \x00main":     "no",
		"\x01 \x02 \x03 \x04": "what",
	} {
		if got := impl.RunScript(line + "\n"); got != want+"\n" {
			t.Errorf("%q: RunScript says %q, not %q", line, got, want)
		}
		text := script("put b 1", "commit one", line, "show", "log")
		checkScript(t, "no text", text)
		checkPromise(t, "no text", text)
	}
}

// There cannot be a 41st pair: that takes 41 lines.
func TestFortyPairs(t *testing.T) {
	var puts []string
	want := "show main"
	for i, p := range numbered(40) {
		puts = append(puts, "put "+p.Key+" "+p.Val)
		if i < 39 {
			want += " " + p.Key + "=" + p.Val
		}
	}
	if got := impl.RunScript(script(puts...)); got != strings.Repeat("ok\n", 40) {
		t.Errorf("40 pairs: RunScript says %q", got)
	}
	if got := impl.RunScript(script(append(slices.Clone(puts[:39]), "show")...)); got != strings.Repeat("ok\n", 39)+want+"\n" {
		t.Errorf("39 pairs: RunScript says %q", got)
	}
	if got := impl.RunScript(script(append(slices.Clone(puts), "put k40 v40")...)); got != "too long\n" {
		t.Errorf("41 lines: RunScript says %q", got)
	}
	// A map of many pairs is committed, and taken in.
	text := script(append(append([]string{"commit one", "branch dev"}, puts[:30]...), "commit two", "switch dev", "put z 1", "commit three", "merge main", "show", "log")...)
	checkScript(t, "30 pairs", text)
	checkPromise(t, "30 pairs", text)
}

// manyObjects has five commits in a row, each with a ref, merged one by one into
// two and then three of another row: 44 objects, which is as many as 40 lines
// are known to make.
func manyObjects() []string {
	lines := []string{"commit s", "branch r"}
	for i := range 5 {
		lines = append(lines, fmt.Sprintf("put a%d 1", i), "commit x")
		if i < 4 {
			lines = append(lines, fmt.Sprint("branch a", i))
		}
	}
	lines = append(lines, "switch r", "put b0 1", "commit y", "branch b0", "put b1 1", "commit y", "branch b1", "put b2 1", "commit y")
	all := []string{"merge a0", "merge a1", "merge a2", "merge a3", "merge main"}
	lines = append(append(lines, all...), "switch b0")
	return append(append(append(lines, all...), "switch b1"), all[:3]...)
}

func TestManyObjects(t *testing.T) {
	lines := manyObjects()
	if _, s := told(t, script(lines...)); len(lines) != 40 || len(objsOf(s.g.texts...)) != 44 {
		t.Fatalf("of %d lines there are %d objects", len(lines), len(objsOf(s.g.texts...)))
	}
	if got := impl.RunScript(script(lines...)); got != strings.Repeat("ok\n", 40) {
		t.Errorf("RunScript says %q", got)
	}
	for _, last := range []string{"show", "log"} {
		checkScript(t, "many objects", script(append(lines[:39:39], last)...))
	}
	checkPromise(t, "many objects", script(lines...))
	// A row of commits is as deep as a script is long.
	row := slices.Repeat([]string{"commit x"}, 39)
	if got := impl.RunScript(script(append(row, "log")...)); got != strings.Repeat("ok\n", 39)+"log"+strings.Repeat(" x", 39)+"\n" {
		t.Errorf("39 commits: RunScript says %q", got)
	}
}

// Of two texts of one id just one can be there.
func TestScriptsWithTwins(t *testing.T) {
	val := func(tree string) string { return strings.TrimPrefix(strings.TrimSuffix(tree, "\n"), "map\na=") }
	one, other := val(twinTrees[0]), val(twinTrees[1])
	_, note, _ := strings.Cut(twinTreeCommit[1], "\n")
	twin := val(twinTreeCommit[0])
	for _, k := range []talk{
		{"two trees", `
			put a ` + one + ` -> ok
			commit one -> ok
			put a ` + other + ` -> ok
			commit two -> no
			show -> show main a=` + other + `
			log -> log one
			branch dev -> ok
			switch dev -> ok
			show -> show dev a=` + one + `
			put a ` + other + ` -> ok
			put b 1 -> ok
			commit two -> ok
			log -> log two one`},
		{"a commit and a tree", `
			put a 1 -> ok
			commit ` + note + ` -> ok
			put a ` + twin + ` -> ok
			commit two -> no
			log -> log ` + note + `
			commit three -> no
			put b 1 -> ok
			commit four -> ok
			show -> show main a=` + twin + ` b=1
			log -> log four ` + note},
		// Nothing clashes, but of what comes of it there can be no tree.
		{"a merger", `
			put a ` + one + ` -> ok
			commit one -> ok
			put b 1 -> ok
			commit two -> ok
			branch dev -> ok
			put a ` + other + ` -> ok
			commit three -> ok
			put c 1 -> ok
			switch dev -> ok
			drop b -> ok
			commit four -> ok
			put d 1 -> ok
			merge main -> no
			show -> show dev a=` + one + ` d=1
			log -> log four two one
			switch main -> ok
			put d 1 -> ok
			merge dev -> no
			show -> show main a=` + other + ` b=1 d=1
			log -> log three two one
			commit five -> ok
			merge dev -> ok
			show -> show main a=` + other + ` d=1`},
	} {
		k.check(t)
	}
}

// line is one of a script of few names, so that they meet often.
func (c *chance) line() string {
	pick := func(words ...string) string { return words[c.below(len(words))] }
	key, name := pick("a", "b", "c", "d"), pick("main", "dev", "dev", "x", "y")
	switch c.below(24) {
	case 0, 1, 2, 3, 4:
		return "put " + key + " " + pick("1", "2")
	case 5, 6:
		return "drop " + key
	case 7, 8, 9, 10:
		return "commit " + pick("p", "q", "r", "s", "t")
	case 11, 12:
		return "branch " + name
	case 13, 14, 15:
		return "switch " + name
	case 16, 17, 18, 19:
		return "merge " + name
	case 20, 21:
		return "show"
	case 22:
		return "log"
	}
	return pick("", "  ", "fly", "put a", "put A 1", "merge none", "show it", "commit", "drop zz", "\t", "branch B", "switch none")
}

func (c *chance) script(n int) string {
	var lines []string
	if c.below(3) > 0 && n > 8 {
		lines = []string{"put a 1", "put b 1", "commit o", "branch dev", "put a 2", "commit u", "switch dev", "put " + string('a'+rune(c.below(3))) + " 3"}
	}
	for len(lines) < n {
		lines = append(lines, strings.Repeat(" ", c.below(2))+c.line()+strings.Repeat(" ", c.below(2)))
	}
	return script(lines...)
}

func TestManyScripts(t *testing.T) {
	c := chance{last: 11}
	said := map[string]int{}
	for i := range 800 {
		text := c.script(1 + c.below(40))
		answers := strings.Split(checkScript(t, fmt.Sprint("script ", i), text), "\n")
		for _, line := range strings.Split(text, "\n") {
			words := wordsIn(line)
			if len(words) == 0 {
				continue
			}
			first, _, _ := strings.Cut(answers[0], " ")
			said[words[0]+" "+first]++
			if words[0] == "log" && strings.Contains(answers[0], " merge") {
				said["log of mergers"]++
			}
			answers = answers[1:]
		}
	}
	for _, what := range []string{
		"put ok", "put no", "put what", "drop ok", "drop no", "commit ok", "commit what", "branch ok", "branch no",
		"switch ok", "switch no", "merge ok", "merge no", "merge clash", "show show", "show what", "log log", "log of mergers",
	} {
		if said[what] < 20 {
			t.Errorf("too few lines are %s: %d", what, said[what])
		}
	}
}

func TestScriptsKeepTheirPromise(t *testing.T) {
	c := chance{last: 5}
	for i := range 25 {
		checkPromise(t, fmt.Sprint("script ", i), c.script(1+c.below(40)))
	}
	// 13 lines, and what they ask behind each of them.
	for i := range 100 {
		lines := strings.Split(c.script(13), "\n")[:13]
		var asked, want []string
		for at := range lines {
			asked = append(asked, lines[at], "show", "log")
			ahead := impl.RunScript(script(lines[:at+1]...))
			shown := impl.RunScript(script(append(lines[:at+1:at+1], "show", "log")...))
			if strings.Trim(lines[at], " ") != "" {
				said := strings.Split(ahead, "\n")
				want = append(want, said[len(said)-2])
			}
			want = append(want, strings.Split(strings.TrimPrefix(shown, ahead), "\n")[:2]...)
		}
		if got := impl.RunScript(script(asked...)); got != script(want...) {
			t.Errorf("script %d: of %q RunScript says %q, not %q", i, asked, got, want)
		}
	}
}

// Whatever stands behind it, as long as it is not too long.
func TestWhatStandsBehind(t *testing.T) {
	text := script("put a 1", "commit one", "branch dev", "put a 2", "commit two", "switch dev", "put a 3", "commit three", "merge main", "show", "log")
	want := impl.RunScript(text)
	if want != script("ok", "ok", "ok", "ok", "ok", "ok", "ok", "ok", "clash a", "show dev a=3", "log three one") {
		t.Errorf("RunScript says %q", want)
	}
	for _, more := range []string{
		"", " ", "merge main", "switch main", "drop a", "put a 1", "commit four", "branch main", "what", "too long", "\x00\xff\t\r", strings.Repeat("x", 3000),
		strings.Repeat("\n", 28), "show\n \nlog", "put a 2\ncommit two\nmerge main\nlog", strings.Repeat("commit x\n", 28) + "log",
	} {
		if got := impl.RunScript(text + more + "\n"); !strings.HasPrefix(got, want) {
			t.Errorf("with %.50q behind it RunScript says %q", more, got)
		}
	}
	for _, more := range []string{"show", " ", strings.Repeat("\n", 30), strings.Repeat(" ", 4000) + "\n"} {
		if got := impl.RunScript(text + more); got != "too long\n" {
			t.Errorf("with %.50q behind it RunScript says %q", more, got)
		}
	}
}

// Nothing is kept from one call to another, be they one behind the other or at once.
func TestScriptsAnswerTheSameAgain(t *testing.T) {
	c := chance{last: 3}
	texts := []string{"", "show\n", "show", "log\n", "put a 1\nshow\n", "branch dev\n", "commit one\nlog\n", script(manyObjects()...)}
	for range 20 {
		texts = append(texts, c.script(30))
	}
	var want []string
	for _, text := range texts {
		says, _ := told(t, text)
		want = append(want, says)
	}
	for round := range 3 {
		for i := range texts {
			at := (i*(2*round+1) + round) % len(texts)
			if got := impl.RunScript(texts[at]); got != want[at] {
				t.Errorf("script %d says %q, not %q", at, got, want[at])
			}
		}
	}
	var all sync.WaitGroup
	for i, text := range texts {
		all.Go(func() {
			if got := impl.RunScript(text); got != want[i] {
				t.Errorf("script %d says %q at once with others, not %q", i, got, want[i])
			}
		})
	}
	all.Wait()
	checkGoroutines(t, "RunScript", func() { impl.RunScript(texts[4]) })
}

package tests

import (
	"maps"
	"slices"
	"strings"
	"testing"

	"loop.example/g00652/impl"
)

func TestObjsOkAtItsLimits(t *testing.T) {
	for name, l := range map[string][]impl.Obj{
		"nil":                nil,
		"empty":              {},
		"one":                objsOf("abc"),
		"the empty text":     objsOf(""),
		"three":              objsOf("abc", "def", "ghi"),
		"59 objects":         objsOf(texts(59)...),
		"60 objects":         objsOf(texts(60)...),
		"text of 1999 bytes": objsOf(strings.Repeat("x", 1999)),
		"text of 2000 bytes": objsOf(strings.Repeat("x", 2000)),
		"bytes of all kinds": objsOf("\x00\n\x1f\x7f\x80\xff", "\xff"),
	} {
		if !impl.ObjsOk(l) {
			t.Errorf("%s: ObjsOk tells false", name)
		}
	}
	for name, l := range notRightObjs() {
		if impl.ObjsOk(l) {
			t.Errorf("%s: ObjsOk tells true", name)
		}
	}
}

func TestObjsOkOfEachDigit(t *testing.T) {
	for place := range 16 {
		for _, digit := range []byte("0123456789abcdefABCDEF g") {
			id := []byte(idOf("abc"))
			id[place] = digit
			l := []impl.Obj{{Id: string(id), Text: "abc"}}
			if got := impl.ObjsOk(l); got != (string(id) == idOf("abc")) {
				t.Errorf("%q: ObjsOk tells %v", l, got)
			}
		}
	}
}

func TestFind(t *testing.T) {
	for _, l := range [][]impl.Obj{objsOf("abc"), objsOf("", "abc", "def"), objsOf(texts(60)...)} {
		for _, o := range l {
			if text, ok := impl.Find(l, o.Id); !ok || text != o.Text {
				t.Errorf("%s of %d objects: Find tells %q, %v", o.Id, len(l), text, ok)
			}
		}
		for _, id := range []string{
			"", "abc", "0000000000000000", "ffffffffffffffff", idOf("none"),
			l[0].Id[:15], l[0].Id + "0", strings.ToUpper(idOf("abc")), " " + l[0].Id,
		} {
			if text, ok := impl.Find(l, id); ok || text != "" {
				t.Errorf("%q: Find tells %q, %v", id, text, ok)
			}
		}
	}
	if text, ok := impl.Find(nil, idOf("")); ok || text != "" {
		t.Errorf("no objects: Find tells %q, %v", text, ok)
	}
}

func TestAdd(t *testing.T) {
	all := []string{"abc", "def", "", "ghi", "\x00\xff\n"}
	for i, text := range all {
		others := slices.Delete(slices.Clone(all), i, i+1)
		for _, before := range [][]string{nil, others, all} {
			l, id, ok := impl.Add(objsOf(before...), text)
			if !ok || id != idOf(text) || !slices.Equal(l, objsOf(append(before, text)...)) {
				t.Errorf("%q to %q: Add tells %q, %s, %v", text, before, l, id, ok)
			}
		}
	}
}

func TestAddAtItsLimits(t *testing.T) {
	longest := strings.Repeat("x", 2000)
	if l, id, ok := impl.Add(nil, longest); !ok || id != idOf(longest) || !slices.Equal(l, objsOf(longest)) {
		t.Errorf("2000 bytes: Add tells %d objects, %s, %v", len(l), id, ok)
	}
	for _, size := range []int{2001, 2002, 100000} {
		for _, before := range [][]impl.Obj{nil, objsOf(longest), objsOf(texts(60)...)} {
			l, id, ok := impl.Add(before, strings.Repeat("x", size))
			if ok || id != "" || len(l) != 0 {
				t.Errorf("%d bytes to %d objects: Add tells %d objects, %s, %v", size, len(before), len(l), id, ok)
			}
		}
	}
	if l, id, ok := impl.Add(objsOf(texts(59)...), "more"); !ok || id != idOf("more") || !slices.Equal(l, objsOf(append(texts(59), "more")...)) {
		t.Errorf("the 60th: Add tells %q, %s, %v", l, id, ok)
	}
	full := objsOf(texts(60)...)
	if l, id, ok := impl.Add(full, "more"); ok || id != "" || len(l) != 0 {
		t.Errorf("the 61st: Add tells %q, %s, %v", l, id, ok)
	}
	for _, text := range texts(60) {
		if l, id, ok := impl.Add(full, text); !ok || id != idOf(text) || !slices.Equal(l, full) {
			t.Errorf("%s, which is one of 60: Add tells %q, %s, %v", text, l, id, ok)
		}
	}
}

func TestJoined(t *testing.T) {
	for _, c := range []struct{ a, b string }{
		{"", ""}, {"abc", ""}, {"abc", "abc"}, {"abc", "def"}, {"abc def", "ghi jkl"}, {"abc def ghi", "ghi jkl"},
		{"abc def ghi", "def"}, {"a b c d e f g h", "i j k l m n o p"}, {"a c e g i", "a b c d e f g h i"},
	} {
		a, b := strings.Fields(c.a), strings.Fields(c.b)
		want := objsOf(slices.Concat(a, b)...)
		if l, ok := impl.Joined(objsOf(a...), objsOf(b...)); !ok || !slices.Equal(l, want) {
			t.Errorf("%q, %q: Joined tells %q, %v", a, b, l, ok)
		}
		if l, ok := impl.Joined(objsOf(b...), objsOf(a...)); !ok || !slices.Equal(l, want) {
			t.Errorf("%q, %q: Joined tells %q, %v", b, a, l, ok)
		}
	}
}

func TestJoinedAtItsLimits(t *testing.T) {
	all := texts(61)
	longest := strings.Repeat("x", 2000)
	for _, c := range []struct {
		name string
		a, b []string
		want bool
	}{
		{"30 and 30", all[:30], all[30:60], true},
		{"30 and 31", all[:30], all[30:], false},
		{"60 and none", all[:60], nil, true},
		{"60 and 60 of these", all[:60], all[:60], true},
		{"60 and one of these", all[:60], all[59:60], true},
		{"60 and one more", all[:60], all[60:], false},
		{"60 and 60, 59 of these", all[:60], all[1:], false},
		{"40 and 40, 20 of these", all[:40], all[20:60], true},
		{"40 and 41, 20 of these", all[:40], all[20:], false},
		{"texts of 2000 bytes", []string{longest}, []string{longest, longest[1:] + "y"}, true},
	} {
		for _, turned := range []bool{false, true} {
			a, b := objsOf(c.a...), objsOf(c.b...)
			if turned {
				a, b = b, a
			}
			var want []impl.Obj
			if c.want {
				want = objsOf(slices.Concat(c.a, c.b)...)
			}
			if l, ok := impl.Joined(a, b); ok != c.want || !slices.Equal(l, want) {
				t.Errorf("%s, turned %v: Joined tells %d objects, %v", c.name, turned, len(l), ok)
			}
		}
	}
}

func TestObjectCallsRefuseWhatIsNotRight(t *testing.T) {
	for name, l := range notRightObjs() {
		for _, id := range []string{idOf("abc"), idOf("def"), ""} {
			if text, ok := impl.Find(l, id); ok || text != "" {
				t.Errorf("%s: Find of %q tells %q, %v", name, id, text, ok)
			}
		}
		for _, text := range []string{"abc", "def", "more", ""} {
			if n, id, ok := impl.Add(l, text); ok || id != "" || len(n) != 0 {
				t.Errorf("%s: Add of %q tells %q, %q, %v", name, text, n, id, ok)
			}
		}
		for _, right := range [][]impl.Obj{nil, objsOf("abc"), objsOf("abc", "def", "ghi"), l} {
			if n, ok := impl.Joined(l, right); ok || len(n) != 0 {
				t.Errorf("%s: Joined, it being first, tells %q, %v", name, n, ok)
			}
			if n, ok := impl.Joined(right, l); ok || len(n) != 0 {
				t.Errorf("%s: Joined, it being second, tells %q, %v", name, n, ok)
			}
		}
	}
}

func TestObjectCallsRefuseTwoTextsOfOneId(t *testing.T) {
	for _, twins := range [][2]string{twinCommits, twinTrees, twinTreeCommit} {
		if twins[0] == twins[1] || idOf(twins[0]) != idOf(twins[1]) {
			t.Fatalf("%q are no twins", twins)
		}
		for i, text := range twins {
			other := twins[1-i]
			l := objsOf("abc", text, "def")
			if n, id, ok := impl.Add(l, other); ok || id != "" || len(n) != 0 {
				t.Errorf("Add of %q to its twin tells %q, %q, %v", other, n, id, ok)
			}
			if n, ok := impl.Joined(l, objsOf(other, "ghi")); ok || len(n) != 0 {
				t.Errorf("Joined of %q and its twin tells %q, %v", text, n, ok)
			}
			if n, ok := impl.Joined(l, objsOf(text, "ghi")); !ok || len(n) != 4 {
				t.Errorf("Joined of %q and itself tells %q, %v", text, n, ok)
			}
		}
	}
}

// A Go map goes the same way as the objects; both must hold the same all along.
func TestAddChangesNothingElse(t *testing.T) {
	model := map[string]bool{}
	var l []impl.Obj
	next := uint32(7)
	for step := range 400 {
		next = next*1664525 + 1013904223
		text := strings.Repeat(string([]byte{byte(next >> 24)}), int(next>>16&3)+1)
		n, id, ok := impl.Add(l, text)
		if ok != (model[text] || len(model) < impl.MaxObjs) {
			t.Fatalf("step %d: Add of %q tells %v", step, text, ok)
		}
		if !ok {
			continue
		}
		model[text], l = true, n
		if found, there := impl.Find(l, id); !there || found != text || id != idOf(text) {
			t.Fatalf("step %d: %q is %q, %v under %s", step, text, found, there, id)
		}
		if want := objsOf(slices.Collect(maps.Keys(model))...); !slices.Equal(l, want) || !impl.ObjsOk(l) {
			t.Fatalf("step %d: the objects are %q, not %q", step, l, want)
		}
	}
	if len(l) != impl.MaxObjs {
		t.Errorf("there are %d objects at last", len(l))
	}
}

func TestObjectCallsLeaveTheirArguments(t *testing.T) {
	for _, l := range [][]impl.Obj{nil, objsOf("abc"), objsOf("abc", "def", "ghi"), objsOf(texts(60)...), notRightObjs()["ids fall"]} {
		a, b := newRoomy(l, spareObj), newRoomy(objsOf("def", "jkl"), spareObj)
		for _, text := range []string{"abc", "def", "more", ""} {
			n, _, _ := impl.Add(a.list(), text)
			spoil(n, spareObj)
			a.check(t, "Add of "+text)
			impl.Find(a.list(), idOf(text))
			a.check(t, "Find of "+text)
		}
		n, _ := impl.Joined(a.list(), b.list())
		spoil(n, spareObj)
		n, _ = impl.Joined(b.list(), a.list())
		spoil(n, spareObj)
		n, _ = impl.Joined(a.list(), nil)
		spoil(n, spareObj)
		n, _ = impl.Joined(nil, a.list())
		spoil(n, spareObj)
		impl.ObjsOk(a.list())
		a.check(t, "Joined or ObjsOk")
		b.check(t, "Joined")
	}
}

func TestObjectCallsAnswerTheSameAgain(t *testing.T) {
	l := objsOf(texts(20)...)
	for range 20 {
		n, _, _ := impl.Add(l, "more")
		if !slices.Equal(n, objsOf(append(texts(20), "more")...)) {
			t.Errorf("Add tells %q", n)
		}
		spoil(n, spareObj)
		n, _ = impl.Joined(l, objsOf(texts(30)...))
		if !slices.Equal(n, objsOf(texts(30)...)) {
			t.Errorf("Joined tells %q", n)
		}
		spoil(n, spareObj)
	}
}

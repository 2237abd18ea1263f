package tests

import (
	"maps"
	"regexp"
	"slices"
	"strings"
	"testing"

	"loop.example/g00652/impl"
)

func TestMapOkAtItsLimits(t *testing.T) {
	for _, c := range []struct {
		name string
		m    []impl.Pair
		want bool
	}{
		{"nil", nil, true},
		{"empty", []impl.Pair{}, true},
		{"39 pairs", numbered(39), true},
		{"40 pairs", numbered(40), true},
		{"41 pairs", numbered(41), false},
		{"key of 0 bytes", []impl.Pair{{Key: "", Val: "x"}}, false},
		{"key of 1 byte", []impl.Pair{{Key: "a", Val: "x"}}, true},
		{"key of 8 bytes", []impl.Pair{{Key: "abcdefg8", Val: "x"}}, true},
		{"key of 9 bytes", []impl.Pair{{Key: "abcdefgh9", Val: "x"}}, false},
		{"value of 0 bytes", []impl.Pair{{Key: "a", Val: ""}}, true},
		{"value of 12 bytes", []impl.Pair{{Key: "a", Val: "123456789012"}}, true},
		{"value of 13 bytes", []impl.Pair{{Key: "a", Val: "1234567890123"}}, false},
		{"last key wrong", []impl.Pair{{Key: "a"}, {Key: "b"}, {Key: "C"}}, false},
		{"last value wrong", []impl.Pair{{Key: "a"}, {Key: "b"}, {Key: "c", Val: "\n"}}, false},
	} {
		if got := impl.MapOk(c.m); got != c.want {
			t.Errorf("%s: MapOk tells %v", c.name, got)
		}
	}
}

func TestMapOkOfEachByte(t *testing.T) {
	const keyBytes = "abcdefghijklmnopqrstuvwxyz0123456789"
	for c := range 256 {
		b := string([]byte{byte(c)})
		for _, key := range []string{b, b + "aa", "a" + b + "a", "aaaaaaa" + b} {
			if got := impl.MapOk([]impl.Pair{{Key: key}}); got != strings.Contains(keyBytes, b) {
				t.Errorf("key %q: MapOk tells %v", key, got)
			}
		}
		for _, val := range []string{b, b + "aa", "a" + b + "a", "aaaaaaaaaaa" + b} {
			if got := impl.MapOk([]impl.Pair{{Key: "a", Val: val}}); got != (c >= 32 && c <= 126) {
				t.Errorf("value %q: MapOk tells %v", val, got)
			}
		}
	}
}

func TestMapOkWantsRisingKeys(t *testing.T) {
	for _, c := range []struct {
		keys string
		want bool
	}{
		{"a b c", true}, {"0 9 a z", true}, {"a a0 aa ab b", true}, {"10 2 9", true},
		{"a a", false}, {"b a", false}, {"a b b", false}, {"a c b", false},
		{"a 9", false}, {"aa a", false}, {"b a c", false}, {"2 10", false},
	} {
		if got := impl.MapOk(keysOnly(c.keys)); got != c.want {
			t.Errorf("%s: MapOk tells %v", c.keys, got)
		}
	}
}

func keysOnly(keys string) []impl.Pair {
	var m []impl.Pair
	for _, key := range strings.Fields(keys) {
		m = append(m, impl.Pair{Key: key})
	}
	return m
}

func TestGet(t *testing.T) {
	m := []impl.Pair{{Key: "a", Val: "1"}, {Key: "c", Val: ""}, {Key: "c0", Val: "x=y"}, {Key: "z", Val: " "}}
	for _, p := range m {
		if val, ok := impl.Get(m, p.Key); !ok || val != p.Val {
			t.Errorf("%s: Get tells %q, %v", p.Key, val, ok)
		}
	}
	for _, key := range []string{"", "0", "b", "cc", "zz", "A", "a=", "\n", "toolong12"} {
		if val, ok := impl.Get(m, key); ok || val != "" {
			t.Errorf("%q: Get tells %q, %v", key, val, ok)
		}
	}
	if val, ok := impl.Get(nil, "a"); ok || val != "" {
		t.Errorf("no pairs: Get tells %q, %v", val, ok)
	}
	for i, p := range numbered(40) {
		if val, ok := impl.Get(numbered(40), p.Key); !ok || val != p.Val {
			t.Errorf("pair %d of 40: Get tells %q, %v", i, val, ok)
		}
	}
}

func TestPut(t *testing.T) {
	m := []impl.Pair{{Key: "b", Val: "1"}, {Key: "d", Val: "2"}}
	for _, c := range []struct{ key, val, want string }{
		{"a", "x", "a=x\nb=1\nd=2\n"},
		{"b", "x", "b=x\nd=2\n"},
		{"b", "1", "b=1\nd=2\n"},
		{"b", "", "b=\nd=2\n"},
		{"c", "x", "b=1\nc=x\nd=2\n"},
		{"d", "x", "b=1\nd=x\n"},
		{"e", "x", "b=1\nd=2\ne=x\n"},
		{"abcdefg8", "=~ 456789012", "abcdefg8==~ 456789012\nb=1\nd=2\n"},
	} {
		if n, ok := impl.Put(m, c.key, c.val); !ok || impl.MapText(n) != c.want {
			t.Errorf("%s=%s: Put tells %q, %v", c.key, c.val, n, ok)
		}
	}
	if n, ok := impl.Put(nil, "a", "1"); !ok || impl.MapText(n) != "a=1\n" {
		t.Errorf("into no pairs: Put tells %q, %v", n, ok)
	}
}

func TestPutRefusesWhatIsNotRight(t *testing.T) {
	m := []impl.Pair{{Key: "b", Val: "1"}}
	for _, p := range []impl.Pair{
		{Key: ""}, {Key: "abcdefgh9"}, {Key: "A"}, {Key: "a b"}, {Key: "a="}, {Key: "\xe4"},
		{Key: "a", Val: "1234567890123"}, {Key: "b", Val: "1234567890123"},
		{Key: "a", Val: "\x1f"}, {Key: "b", Val: "\x7f"}, {Key: "b", Val: "\n"}, {Key: "b", Val: "\xc3\xa4"},
	} {
		if n, ok := impl.Put(m, p.Key, p.Val); ok || len(n) != 0 {
			t.Errorf("%q: Put tells %q, %v", p, n, ok)
		}
	}
}

func TestPutAtFortyPairs(t *testing.T) {
	if n, ok := impl.Put(numbered(39), "z", "1"); !ok || len(n) != 40 || n[39] != (impl.Pair{Key: "z", Val: "1"}) {
		t.Errorf("the 40th pair: Put tells %q, %v", n, ok)
	}
	for _, p := range numbered(40) {
		n, ok := impl.Put(numbered(40), p.Key, "new")
		val, there := impl.Get(n, p.Key)
		if !ok || len(n) != 40 || !there || val != "new" {
			t.Errorf("%s anew among 40: Put tells %q, %v", p.Key, n, ok)
		}
	}
	for _, key := range []string{"a", "k10a", "z"} {
		if n, ok := impl.Put(numbered(40), key, "1"); ok || len(n) != 0 {
			t.Errorf("%s as 41st: Put tells %q, %v", key, n, ok)
		}
	}
}

func TestDrop(t *testing.T) {
	m := []impl.Pair{{Key: "a", Val: "1"}, {Key: "b", Val: "2"}, {Key: "c", Val: "3"}}
	for key, want := range map[string]string{"a": "b=2\nc=3\n", "b": "a=1\nc=3\n", "c": "a=1\nb=2\n"} {
		if n, ok := impl.Drop(m, key); !ok || impl.MapText(n) != want {
			t.Errorf("%s: Drop tells %q, %v", key, n, ok)
		}
	}
	for _, key := range []string{"", "0", "aa", "d", "A", "toolong12"} {
		if n, ok := impl.Drop(m, key); ok || len(n) != 0 {
			t.Errorf("%q: Drop tells %q, %v", key, n, ok)
		}
	}
	if n, ok := impl.Drop(m[:1], "a"); !ok || len(n) != 0 {
		t.Errorf("the only pair: Drop tells %q, %v", n, ok)
	}
	if n, ok := impl.Drop(nil, "a"); ok || len(n) != 0 {
		t.Errorf("no pairs: Drop tells %q, %v", n, ok)
	}
}

// Each of these has a right pair a=1, and some would be right behind the call.
func TestCallsRefuseMapsThatAreNotRight(t *testing.T) {
	for name, m := range map[string][]impl.Pair{
		"key twice":       {{Key: "a", Val: "1"}, {Key: "a", Val: "1"}},
		"keys fall":       {{Key: "b", Val: "2"}, {Key: "a", Val: "1"}},
		"key of 0 bytes":  {{Key: "", Val: "2"}, {Key: "a", Val: "1"}},
		"key of 9 bytes":  {{Key: "a", Val: "1"}, {Key: "abcdefgh9", Val: "2"}},
		"value too long":  {{Key: "a", Val: "1"}, {Key: "b", Val: "1234567890123"}},
		"value of byte 9": {{Key: "a", Val: "1"}, {Key: "b", Val: "\t"}},
		"wrong at a":      {{Key: "a", Val: "\n"}},
		"41 pairs":        append([]impl.Pair{{Key: "a", Val: "1"}}, numbered(40)...),
	} {
		if val, ok := impl.Get(m, "a"); ok || val != "" {
			t.Errorf("%s: Get tells %q, %v", name, val, ok)
		}
		for _, key := range []string{"a", "b", "c", "k00"} {
			if n, ok := impl.Put(m, key, "x"); ok || len(n) != 0 {
				t.Errorf("%s: Put of %s tells %q, %v", name, key, n, ok)
			}
			if n, ok := impl.Drop(m, key); ok || len(n) != 0 {
				t.Errorf("%s: Drop of %s tells %q, %v", name, key, n, ok)
			}
		}
		if s := impl.MapText(m); s != "" {
			t.Errorf("%s: MapText tells %q", name, s)
		}
	}
}

// A Go map goes the same way as the list; both must hold the same all along.
func TestPutAndDropChangeNothingElse(t *testing.T) {
	model := map[string]string{}
	var m []impl.Pair
	next := uint32(1)
	for step := range 4000 {
		next = next*1664525 + 1013904223
		key := string([]byte{'a' + byte(next>>28), '0' + byte(next>>24&3)})
		val := strings.Repeat("=", int(next>>16&7))
		_, there := model[key]
		if next>>10&1 == 0 {
			n, ok := impl.Drop(m, key)
			if ok != there {
				t.Fatalf("step %d: Drop of %s tells %v", step, key, ok)
			}
			if ok {
				delete(model, key)
				m = n
			}
		} else {
			n, ok := impl.Put(m, key, val)
			if ok != (there || len(model) < impl.MaxPairs) {
				t.Fatalf("step %d: Put of %s tells %v", step, key, ok)
			}
			if ok {
				model[key] = val
				m = n
			}
		}
		checkAsModel(t, m, model)
	}
}

func checkAsModel(t *testing.T, m []impl.Pair, model map[string]string) {
	t.Helper()
	var want []impl.Pair
	for _, key := range slices.Sorted(maps.Keys(model)) {
		want = append(want, impl.Pair{Key: key, Val: model[key]})
	}
	if !slices.Equal(m, want) || !impl.MapOk(m) {
		t.Fatalf("the map is %q, not %q", m, want)
	}
}

func TestMapText(t *testing.T) {
	m := []impl.Pair{{Key: "0", Val: ""}, {Key: "a", Val: "x=y"}, {Key: "zz9", Val: " ~"}}
	if s := impl.MapText(m); s != "0=\na=x=y\nzz9= ~\n" {
		t.Errorf("MapText tells %q", s)
	}
	if s := impl.MapText(nil); s != "" {
		t.Errorf("no pairs: MapText tells %q", s)
	}
}

func TestMapsComeBackFromTheirTexts(t *testing.T) {
	widest := numbered(40)
	for i := range widest {
		widest[i].Key += "abcde"
		widest[i].Val = "=== ~~~ ===="
	}
	for _, m := range [][]impl.Pair{
		nil, numbered(1), numbered(39), numbered(40), widest,
		{{Key: "a", Val: ""}}, {{Key: "a", Val: "="}, {Key: "b", Val: " "}},
	} {
		s := impl.MapText(m)
		if n, ok := impl.ReadMap(s); !ok || !slices.Equal(n, m) {
			t.Errorf("%q: ReadMap tells %q, %v", s, n, ok)
		}
	}
	for c := 32; c <= 126; c++ {
		m := []impl.Pair{{Key: "a", Val: string([]byte{byte(c)})}}
		if n, ok := impl.ReadMap(impl.MapText(m)); !ok || !slices.Equal(n, m) {
			t.Errorf("value of byte %d: ReadMap tells %q, %v", c, n, ok)
		}
	}
}

func TestReadMapRefusesOtherTexts(t *testing.T) {
	fortyOne := impl.MapText(numbered(40)) + "z=1\n"
	for _, s := range []string{
		"a", "a=", "a=1", "a=1\nb=2", "a\n", "\n", "a=1\n\n", "\na=1\n", "=1\n", "=\n",
		"a=1\r\n", "a=\x1f\n", "a=\x7f\n", "a=\x00\n", "a=\xff\n", " a=1\n", "a =1\n", "A=1\n",
		"b=1\na=1\n", "a=1\na=1\n", "a=1\na=2\n", "abcdefgh9=1\n", "a=1234567890123\n",
		fortyOne, fortyOne + "!", strings.Repeat("a=1\n", 100000), strings.Repeat("=", 100000),
	} {
		if n, ok := impl.ReadMap(s); ok || len(n) != 0 {
			t.Errorf("%.60q: ReadMap tells %q, %v", s, n, ok)
		}
	}
	if n, ok := impl.ReadMap(impl.MapText(numbered(40))); !ok || len(n) != 40 {
		t.Errorf("40 pairs: ReadMap tells %q, %v", n, ok)
	}
}

// All short texts over a few bytes, held against the form that the document gives.
func TestReadMapOfAllShortTexts(t *testing.T) {
	form := regexp.MustCompile(`^([a-z0-9]{1,8}=[ -~]{0,12}\n)*$`)
	texts := []string{""}
	for start, size := 0, 0; size < 8; size++ {
		end := len(texts)
		for _, s := range texts[start:end] {
			for _, c := range "a0=\n" {
				texts = append(texts, s+string(c))
			}
		}
		start = end
	}
	for _, s := range texts {
		want := form.MatchString(s) && keysRise(s)
		m, ok := impl.ReadMap(s)
		if ok != want || ok && impl.MapText(m) != s || !ok && len(m) != 0 {
			t.Fatalf("%q: ReadMap tells %q, %v", s, m, ok)
		}
	}
}

func keysRise(s string) bool {
	last := ""
	for line := range strings.Lines(s) {
		key, _, _ := strings.Cut(line, "=")
		if key <= last {
			return false
		}
		last = key
	}
	return true
}

func TestMapCallsLeaveTheirArguments(t *testing.T) {
	for _, m := range [][]impl.Pair{nil, numbered(1), numbered(3), numbered(40), {{Key: "b"}, {Key: "a"}}} {
		r := newRoomy(m, sparePair)
		for _, key := range []string{"a", "k00", "k01", "k01a", "k39", "z", ""} {
			n, _ := impl.Put(r.list(), key, "new")
			spoil(n, sparePair)
			r.check(t, "Put of "+key)
			n, _ = impl.Drop(r.list(), key)
			spoil(n, sparePair)
			r.check(t, "Drop of "+key)
			impl.Get(r.list(), key)
			r.check(t, "Get of "+key)
		}
		impl.MapOk(r.list())
		impl.MapText(r.list())
		r.check(t, "MapOk or MapText")
	}
}

func TestMapCallsAnswerTheSameAgain(t *testing.T) {
	m := numbered(5)
	first, _ := impl.Put(m, "k02", "new")
	spoil(first, sparePair)
	again, ok := impl.Put(m, "k02", "new")
	if !ok || impl.MapText(again) != "k00=v0\nk01=v1\nk02=new\nk03=v3\nk04=v4\n" {
		t.Errorf("Put tells %q, %v", again, ok)
	}
	read, _ := impl.ReadMap("a=1\nb=2\n")
	spoil(read, sparePair)
	if again, ok := impl.ReadMap("a=1\nb=2\n"); !ok || impl.MapText(again) != "a=1\nb=2\n" {
		t.Errorf("ReadMap tells %q, %v", again, ok)
	}
}

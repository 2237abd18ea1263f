package tests

import (
	"encoding/binary"
	"fmt"
	"hash/crc32"
	"math"
	"reflect"
	"slices"
	"strings"
	"testing"

	"loop.example/g00652/impl"
)

// frameOf is reckoned by the library, so that the tests do not lean on FrameOf.
func frameOf(data string) string {
	head := binary.BigEndian.AppendUint32(nil, uint32(len(data)))
	head = binary.LittleEndian.AppendUint32(head, crc32.ChecksumIEEE([]byte(data)))
	return string(head) + data
}

// framesIn is TakeFrames as the document has it.
func framesIn(s string) (out []string, end int64) {
	for {
		rest := s[end:]
		if len(rest) < 8 {
			return out, end
		}
		size := int(binary.BigEndian.Uint32([]byte(rest)))
		if size > 100000 || size > len(rest)-8 || !strings.HasPrefix(rest, frameOf(rest[8:8+size])) {
			return out, end
		}
		out = append(out, rest[8:8+size])
		end += int64(8 + size)
	}
}

// logWith has these texts, each in its frame.
func logWith(texts ...string) string {
	var out strings.Builder
	for i, text := range texts {
		out.WriteString(frameOf(fmt.Sprint(i, " ", text)))
	}
	return out.String()
}

// right tells whether these texts may stand in a log, one behind the other, when
// all but the last one may.
func right(texts []string) bool {
	l := objsOf(texts...)
	return len(l) == len(texts) && impl.RepoOk(l)
}

// counted are the texts of a log that count, and where they end.
func counted(log string) (texts []string, end int) {
	frames, _ := framesIn(log)
	for i, data := range frames {
		text, ok := strings.CutPrefix(data, fmt.Sprint(i, " "))
		if !ok || !right(append(slices.Clone(texts), text)) {
			break
		}
		texts = append(texts, text)
		end += 8 + len(data)
	}
	return texts, end
}

// syncOp stands for Sync among steps.
var syncOp = impl.DOp{}

// made are steps as the document has them.
func made(d impl.Disk, power int64, steps ...impl.DOp) (impl.Disk, int64) {
	out := d
	for i, op := range steps {
		if power >= 0 && int64(i) >= power {
			return out, 5
		}
		if op == syncOp {
			out = impl.Disk{Live: out.Live, Safe: out.Live}
			continue
		}
		e, code := doneOn(out, op)
		if code != 0 {
			return d, 4
		}
		out = e
	}
	return out, 0
}

// opening are the steps of AcOpen on a disk with this log.
func opening(d impl.Disk, log string) []impl.DOp {
	_, end := counted(log)
	if end == len(log) {
		return nil
	}
	steps := []impl.DOp{appendOp("log.new", log[:end]), syncOp, renameOp("log.new", "log"), syncOp}
	if _, there := dataOf(d.Live)["log.new"]; there {
		return slices.Insert(steps, 0, removeOp("log.new"))
	}
	return steps
}

// adding are the steps of AcAdd on a disk with this log, or its code.
func adding(log string, a impl.Act) ([]impl.DOp, int64) {
	texts, end := counted(log)
	switch {
	case len(a.Text) > 2000:
		return nil, 3
	case end < len(log):
		return nil, 6
	case len(texts) == 60:
		return nil, 4
	case !right(append(slices.Clone(texts), a.Text)):
		return nil, 8
	}
	steps := []impl.DOp{appendOp("log", frameOf(fmt.Sprint(len(texts), " ", a.Text)))}
	if a.Sync {
		steps = append(steps, syncOp)
	}
	return steps, 0
}

// acted is StoreDo as the document has it.
func acted(d impl.Disk, a impl.Act) (impl.Disk, int64) {
	if !diskRight(d) {
		return impl.Disk{}, 1
	}
	if a.Kind < 1 || a.Kind > 4 {
		return d, 3
	}
	if a.Kind == 4 {
		e, ok := left(d, a.Keep, a.Torn)
		if !ok {
			return d, 3
		}
		d = e
	}
	log, there := dataOf(d.Live)["log"]
	switch {
	case a.Kind == 1 && there:
		return d, 3
	case a.Kind == 1:
		return made(d, a.Power, appendOp("log", ""), syncOp)
	case !there:
		return d, 2
	case a.Kind == 2:
		steps, code := adding(log, a)
		if code != 0 {
			return d, code
		}
		return made(d, a.Power, steps...)
	}
	return made(d, a.Power, opening(d, log)...)
}

func briefAct(a impl.Act) string { return fmt.Sprintf("%.200q", fmt.Sprintf("%+v", a)) }

// checkAct asks, beside the answer, that what is left is a right disk.
func checkAct(t *testing.T, name string, d impl.Disk, a impl.Act) (impl.Disk, int64) {
	t.Helper()
	want, code := acted(d, a)
	e, c := impl.StoreDo(d, a)
	if c != code || !sameDisk(e, want) {
		t.Errorf("%s: StoreDo of %s tells %s, %d, not %s, %d", name, briefAct(a), brief(e), c, brief(want), code)
	}
	if c != impl.StDisk && !impl.DiskOk(e) {
		t.Errorf("%s: StoreDo of %s leaves a disk that is not right", name, briefAct(a))
	}
	return e, c
}

func checkView(t *testing.T, name string, d impl.Disk, texts ...string) {
	t.Helper()
	l, code := impl.StoreView(d)
	if code != impl.StOk || !slices.Equal(l, objsOf(texts...)) {
		t.Errorf("%s: StoreView tells %q, %d, not %q", name, l, code, texts)
	}
}

// someTexts may stand in a log in this order: trees and commits by turns.
func someTexts(n int) []string {
	var out []string
	for _, text := range mappedGraph(ternary(40, 3), chain(40, true)...).texts {
		if !slices.Contains(out, text) && len(out) < n {
			out = append(out, text)
		}
	}
	return out
}

func TestConstantsOfStores(t *testing.T) {
	got := []int{impl.StOk, impl.StDisk, impl.StNone, impl.StForm, impl.StFull, impl.StPower, impl.StTorn, impl.StNot, impl.AcNew, impl.AcAdd, impl.AcOpen, impl.AcCrash}
	if !slices.Equal(got, []int{0, 1, 2, 3, 4, 5, 6, 8, 1, 2, 3, 4}) {
		t.Error(got)
	}
}

// The answers are written down here.
func TestFrameOf(t *testing.T) {
	for data, want := range map[string]string{
		"":          "\x00\x00\x00\x00\x00\x00\x00\x00",
		"a":         "\x00\x00\x00\x01\x43\xbe\xb7\xe8a",
		"abc":       "\x00\x00\x00\x03\xc2\x41\x24\x35abc",
		"123456789": "\x00\x00\x00\x09\x26\x39\xf4\xcb123456789",
		"\x00":      "\x00\x00\x00\x01\x8d\xef\x02\xd2\x00",
		"\xff":      "\x00\x00\x00\x01\x00\x00\x00\xff\xff",
	} {
		if f := impl.FrameOf(data); f != want {
			t.Errorf("FrameOf(%q) tells %q", data, f)
		}
	}
}

func TestFrameOfEachSize(t *testing.T) {
	for _, size := range []int{0, 1, 2, 3, 254, 255, 256, 257, 2000, 65535, 65536, 65537, 99999, 100000} {
		for _, c := range []string{"\x00", "x", "\xff"} {
			data := strings.Repeat(c, size)
			f := impl.FrameOf(data)
			if f != frameOf(data) {
				t.Errorf("FrameOf of %d bytes %q tells %.20q", size, c, f)
			}
			if l, end := impl.TakeFrames(f); end != int64(8+size) || !slices.Equal(l, []string{data}) {
				t.Errorf("TakeFrames of a frame of %d bytes tells %.20q, %d", size, l, end)
			}
		}
	}
	for _, size := range []int{100001, 100002, 131072, 200000, 3000000} {
		if f := impl.FrameOf(strings.Repeat("x", size)); f != "" {
			t.Errorf("FrameOf of %d bytes tells %.20q", size, f)
		}
	}
}

func TestFrameOfEachByte(t *testing.T) {
	for c := range 256 {
		for _, data := range []string{string([]byte{byte(c)}), string([]byte{7, byte(c), 250}), string([]byte{byte(c), byte(255 - c), byte(c)})} {
			if f := impl.FrameOf(data); f != frameOf(data) {
				t.Errorf("FrameOf(%q) tells %q", data, f)
			}
		}
	}
}

func checkTakeFrames(t *testing.T, s string) int {
	t.Helper()
	want, at := framesIn(s)
	l, end := impl.TakeFrames(s)
	if end != at || !slices.Equal(l, want) {
		t.Errorf("TakeFrames of %.100q tells %.100q, %d, not %.100q, %d", s, l, end, want, at)
	}
	return len(l)
}

// How many frames there are is written down here.
func TestTakeFrames(t *testing.T) {
	one, two, none := frameOf("abc"), frameOf("defgh"), frameOf("")
	long, longer := frameOf(strings.Repeat("x", 100000)), frameOf(strings.Repeat("x", 100001))
	sum := one[:4] + "\xc3" + one[5:]
	turned := one[:4] + "\x35\x24\x41\xc2" + "abc"
	for _, c := range []struct {
		name string
		s    string
		want int
	}{
		{"nothing", "", 0},
		{"one", one, 1},
		{"two", one + two, 2},
		{"one twice", one + one, 2},
		{"of no bytes", none, 1},
		{"many of no bytes", strings.Repeat(none, 1000), 1000},
		{"of no bytes between", one + none + two, 3},
		{"goes on by a byte", one + two + "x", 2},
		{"goes on by 7 bytes 0", one + two + none[:7], 2},
		{"goes on by 8 bytes 0", one + two + none, 3},
		{"goes on by other bytes", one + two + "some more bytes", 2},
		{"ends within its size", one + two[:3], 1},
		{"ends within its sum", one + two[:6], 1},
		{"ends behind its head", one + two[:8], 1},
		{"ends within its data", one + two[:11], 1},
		{"ends ahead of its last byte", one + two[:12], 1},
		{"a byte ahead", "x" + one, 0},
		{"a sum that is wrong", sum, 0},
		{"a sum that is wrong between", two + sum + two, 1},
		{"a sum with the highest first", turned, 0},
		{"a size with the lowest first", "\x03\x00\x00\x00" + one[4:], 0},
		{"data that is wrong", one[:8] + "abd" + two, 0},
		{"a size that is too small", "\x00\x00\x00\x02" + one[4:], 0},
		{"100000 bytes", long, 1},
		{"100000 bytes twice", long + long, 2},
		{"100001 bytes", longer, 0},
		{"100001 bytes between", one + longer + one, 1},
		{"2 to the 24 bytes", "\x01\x00\x00\x00\x00\x00\x00\x00", 0},
		{"2 to the 31 bytes", one + "\x80\x00\x00\x00\x00\x00\x00\x00" + one, 1},
		{"2 to the 32 bytes less one", one + "\xff\xff\xff\xff\xff\xff\xff\xff" + one, 1},
		{"2 to the 32 bytes less 8", "\xff\xff\xff\xf8\x00\x00\x00\x00" + one, 0},
	} {
		if n := checkTakeFrames(t, c.s); n != c.want {
			t.Errorf("%s: TakeFrames tells %d frames", c.name, n)
		}
	}
}

// Frames of which one byte is another one, is gone, or is there in addition.
func TestTakeFramesOfTextsNearby(t *testing.T) {
	for _, s := range []string{frameOf("abc"), frameOf(""), frameOf("") + frameOf("") + frameOf("\x00"), logWith(someTexts(4)...)} {
		for at := range len(s) + 1 {
			checkTakeFrames(t, s[:at])
			checkTakeFrames(t, s[at:])
			checkTakeFrames(t, s[:at]+"\x00"+s[at:])
			if at == len(s) {
				continue
			}
			checkTakeFrames(t, s[:at]+s[at+1:])
			for bit := range 8 {
				checkTakeFrames(t, s[:at]+string([]byte{s[at] ^ 1<<bit})+s[at+1:])
			}
		}
	}
}

// logCase is a log and the texts that count; one that is good has nothing else.
type logCase struct {
	name  string
	log   string
	texts []string
	good  bool
}

func logs() []logCase {
	first := commitText(idOf(treeA), "first")
	second := commitText(idOf(treeB), "second", idOf(first))
	three, sixty := logWith(treeA, first, treeB), trees(60)
	at := func(number any, text string) string { return frameOf(fmt.Sprint(number, " ", text)) }
	return []logCase{
		{"nothing", "", nil, true},
		{"a tree", logWith(treeA), []string{treeA}, true},
		{"a tree of no pairs", logWith("map\n"), []string{"map\n"}, true},
		{"a tree and a commit", logWith(treeA, first), []string{treeA, first}, true},
		{"two trees", logWith(treeB, treeA), []string{treeB, treeA}, true},
		{"commits", logWith(treeA, first, treeB, second), []string{treeA, first, treeB, second}, true},
		{"60 objects", logWith(sixty...), sixty, true},
		{"60 objects with commits", logWith(someTexts(60)...), someTexts(60), true},
		{"61 objects", logWith(trees(61)...), sixty, false},
		{"60 objects and one of them again", logWith(append(trees(60), trees(1)...)...), sixty, false},
		{"60 objects and a byte", logWith(sixty...) + "x", sixty, false},
		{"100 objects", logWith(trees(100)...), sixty, false},
		{"a commit ahead of its tree", logWith(first, treeA), nil, false},
		{"a commit without its tree", logWith(treeB, first), []string{treeB}, false},
		{"a commit ahead of its parent", logWith(treeA, treeB, second, first), []string{treeA, treeB}, false},
		{"a commit ahead of its parent, by its number", logWith(treeA, treeB) + at(2, second) + at(2, first), []string{treeA, treeB}, false},
		{"a commit whose Tree is a commit", logWith(treeA, first, commitText(idOf(first), "")), []string{treeA, first}, false},
		{"a commit whose parent is a tree", logWith(treeA, treeB, commitText(idOf(treeA), "", idOf(treeB))), []string{treeA, treeB}, false},
		{"a text that is none", logWith(treeA, "abc", treeB), []string{treeA}, false},
		{"the empty text", logWith(""), nil, false},
		{"the empty text between", logWith(treeA, "", treeB), []string{treeA}, false},
		{"a text of 2000 bytes", logWith(treeA, strings.Repeat("x", 2000)), []string{treeA}, false},
		{"a text of 2001 bytes", logWith(treeA, strings.Repeat("x", 2001)), []string{treeA}, false},
		{"a text of 90000 bytes", logWith(treeA, "map\n"+strings.Repeat("x", 90000)), []string{treeA}, false},
		{"a tree whose keys fall", logWith("map\nb=1\na=1\n"), nil, false},
		{"a text twice", logWith(treeA, treeA), []string{treeA}, false},
		{"a text twice, later", logWith(treeA, first, treeB, first, second), []string{treeA, first, treeB}, false},
		{"a twin", logWith(twinTrees[0], twinTrees[1]), twinTrees[:1], false},
		{"the other twin", logWith(twinTrees[1], twinTrees[0]), twinTrees[1:], false},
		{"a twin of a commit", logWith(treeA, first, twinCommits[0], twinCommits[1]), []string{treeA, first, twinCommits[0]}, false},
		{"a twin of a tree", logWith(treeA, twinTreeCommit[0], twinTreeCommit[1]), []string{treeA, twinTreeCommit[0]}, false},
		{"a twin of a commit, a tree", logWith(treeA, twinTreeCommit[1], twinTreeCommit[0]), []string{treeA, twinTreeCommit[1]}, false},
		{"the number 1 first", at(1, treeA), nil, false},
		{"the number 0 twice", at(0, treeA) + at(0, treeB), []string{treeA}, false},
		{"a number left out", at(0, treeA) + at(2, treeB), []string{treeA}, false},
		{"a number left out, and it goes on", at(0, treeA) + at(2, treeB) + at(1, treeB), []string{treeA}, false},
		{"numbers that fall", at(1, treeB) + at(0, treeA), nil, false},
		{"a nought ahead", at("00", treeA), nil, false},
		{"a nought ahead of 1", at(0, treeA) + at("01", treeB), []string{treeA}, false},
		{"a plus", at(0, treeA) + at("+1", treeB), []string{treeA}, false},
		{"a minus", at("-0", treeA), nil, false},
		{"a blank ahead", at(" 0", treeA), nil, false},
		{"two blanks", at("0 ", treeA), nil, false},
		{"no blank", frameOf("0" + treeA), nil, false},
		{"another byte than a blank", frameOf("0\n" + treeA), nil, false},
		{"a number alone", frameOf("0"), nil, false},
		{"a number and a blank alone", frameOf("0 "), nil, false},
		{"no number", frameOf(treeA), nil, false},
		{"no number but a blank", frameOf(" " + treeA), nil, false},
		{"ten digits", at("0000000000", treeA), nil, false},
		{"2 to the 64", at("18446744073709551616", treeA), nil, false},
		{"a frame of no bytes", frameOf(""), nil, false},
		{"a frame of no bytes at last", three + frameOf(""), []string{treeA, first, treeB}, false},
		{"a frame of no bytes between", at(0, treeA) + frameOf("") + at(1, treeB), []string{treeA}, false},
		{"bytes 0", strings.Repeat("\x00", 5000), nil, false},
		{"bytes 0 at last", three + strings.Repeat("\x00", 5000), []string{treeA, first, treeB}, false},
		{"it goes on", three + "x", []string{treeA, first, treeB}, false},
		{"it ends within a frame", three[:len(three)-1], []string{treeA, first}, false},
		{"a sum that is wrong", three[:5] + "?" + three[6:], nil, false},
		{"a sum that is wrong at last", three[:len(three)-2] + "7\n", []string{treeA, first}, false},
		{"another text", "log\n", nil, false},
		{"a frame of 100000 bytes", three + frameOf(strings.Repeat("x", 100000)), []string{treeA, first, treeB}, false},
	}
}

func TestStoreView(t *testing.T) {
	for _, c := range logs() {
		texts, end := counted(c.log)
		if !slices.Equal(texts, c.texts) || (end == len(c.log)) != c.good {
			t.Errorf("%s: %q count, up to %d", c.name, texts, end)
		}
		checkView(t, c.name, synced(files{"log": c.log}), c.texts...)
		checkView(t, c.name+", among others", synced(files{"LOG": "x", "a": "1", "log": c.log, "log.new": logWith("map\n"), "log2": ""}), c.texts...)
		checkView(t, c.name+", not synced", diskOf(files{"log": "old", "m": ""}, removeOp("log"), appendOp("n", c.log), renameOp("n", "log")), c.texts...)
	}
	for name, d := range map[string]impl.Disk{
		"no files":      {},
		"another file":  synced(files{"LOG": "", "lo": "", "log.new": logWith(treeA), "logs": ""}),
		"it is removed": diskOf(files{"log": logWith(treeA)}, removeOp("log")),
		"it is renamed": diskOf(files{"log": logWith(treeA)}, renameOp("log", "log.new")),
	} {
		if l, code := impl.StoreView(d); code != impl.StNone || len(l) != 0 {
			t.Errorf("%s: StoreView tells %q, %d", name, l, code)
		}
	}
}

// Logs of which one byte is another one, is gone, or is there in addition.
func TestStoreViewOfLogsNearby(t *testing.T) {
	log := logWith(someTexts(4)...)
	for at := range len(log) {
		for _, s := range []string{log[:at], log[at:], log[:at] + log[at+1:], log[:at] + "\x00" + log[at:], log[:at] + "1" + log[at+1:]} {
			texts, _ := counted(s)
			checkView(t, fmt.Sprint("at ", at), synced(files{"log": s}), texts...)
		}
	}
}

// powers are as many as any act has steps, one more, and all.
func powers() []int64 {
	return []int64{0, 1, 2, 3, 4, 5, 6, -1, -2, math.MinInt64, math.MaxInt64}
}

// Which steps were made is written down here.
func TestActsWithEachPower(t *testing.T) {
	tree, torn := logWith(treeA), logWith(treeA)+"torn"
	more := tree + frameOf("1 "+treeB)
	frame := appendOp("log", frameOf("1 "+treeB))
	for _, c := range []struct {
		name  string
		d     impl.Disk
		act   impl.Act
		disks []impl.Disk
	}{
		{"AcNew", synced(files{"a": "1"}), impl.Act{Kind: impl.AcNew}, []impl.Disk{
			synced(files{"a": "1"}), diskOf(files{"a": "1"}, appendOp("log", "")), synced(files{"a": "1", "log": ""}),
		}},
		{"AcNew with ops ahead", diskOf(files{"a": "1"}, removeOp("a")), impl.Act{Kind: impl.AcNew, Text: treeA, Keep: []int64{7}, Torn: -1}, []impl.Disk{
			diskOf(files{"a": "1"}, removeOp("a")), diskOf(files{"a": "1"}, removeOp("a"), appendOp("log", "")), synced(files{"log": ""}),
		}},
		{"AcAdd", synced(files{"log": tree}), impl.Act{Kind: impl.AcAdd, Text: treeB}, []impl.Disk{
			synced(files{"log": tree}), diskOf(files{"log": tree}, frame),
		}},
		{"AcAdd with Sync", synced(files{"log": tree}), impl.Act{Kind: impl.AcAdd, Text: treeB, Sync: true}, []impl.Disk{
			synced(files{"log": tree}), diskOf(files{"log": tree}, frame), synced(files{"log": more}),
		}},
		{"AcAdd with ops ahead", diskOf(files{"a": "1"}, appendOp("log", tree)), impl.Act{Kind: impl.AcAdd, Text: treeB, Sync: true, Keep: []int64{9, 9}, Torn: -7}, []impl.Disk{
			diskOf(files{"a": "1"}, appendOp("log", tree)), diskOf(files{"a": "1"}, appendOp("log", tree), frame), synced(files{"a": "1", "log": more}),
		}},
		{"AcOpen of a good log", diskOf(files{"log": tree, "log.new": "x"}, appendOp("a", "1")), impl.Act{Kind: impl.AcOpen}, []impl.Disk{
			diskOf(files{"log": tree, "log.new": "x"}, appendOp("a", "1")),
		}},
		{"AcOpen", synced(files{"log": torn}), impl.Act{Kind: impl.AcOpen, Sync: true}, []impl.Disk{
			synced(files{"log": torn}),
			diskOf(files{"log": torn}, appendOp("log.new", tree)),
			synced(files{"log": torn, "log.new": tree}),
			diskOf(files{"log": torn, "log.new": tree}, renameOp("log.new", "log")),
			synced(files{"log": tree}),
		}},
		{"AcOpen where nothing counts", synced(files{"log": "x"}), impl.Act{Kind: impl.AcOpen}, []impl.Disk{
			synced(files{"log": "x"}),
			diskOf(files{"log": "x"}, appendOp("log.new", "")),
			synced(files{"log": "x", "log.new": ""}),
			diskOf(files{"log": "x", "log.new": ""}, renameOp("log.new", "log")),
			synced(files{"log": ""}),
		}},
		{"AcOpen where log.new is there", diskOf(files{"log": tree, "log.new": "y"}, appendOp("log", "torn")), impl.Act{Kind: impl.AcOpen, Text: treeB}, []impl.Disk{
			diskOf(files{"log": tree, "log.new": "y"}, appendOp("log", "torn")),
			diskOf(files{"log": tree, "log.new": "y"}, appendOp("log", "torn"), removeOp("log.new")),
			diskOf(files{"log": tree, "log.new": "y"}, appendOp("log", "torn"), removeOp("log.new"), appendOp("log.new", tree)),
			synced(files{"log": torn, "log.new": tree}),
			diskOf(files{"log": torn, "log.new": tree}, renameOp("log.new", "log")),
			synced(files{"log": tree}),
		}},
		{"AcCrash with a good log", diskOf(files{"log": tree}, frame, appendOp("a", "1")), impl.Act{Kind: impl.AcCrash, Keep: []int64{0}, Torn: 999}, []impl.Disk{
			synced(files{"log": more}),
		}},
		{"AcCrash with nothing kept", diskOf(files{"log": tree}, frame, removeOp("log")), impl.Act{Kind: impl.AcCrash}, []impl.Disk{
			synced(files{"log": tree}),
		}},
		{"AcCrash", diskOf(files{"log": tree}, frame, appendOp("a", "1")), impl.Act{Kind: impl.AcCrash, Keep: []int64{0}, Torn: 9, Text: treeB, Sync: true}, []impl.Disk{
			synced(files{"log": tree + more[len(tree):len(tree)+9]}),
			diskOf(files{"log": tree + more[len(tree):len(tree)+9]}, appendOp("log.new", tree)),
			synced(files{"log": tree + more[len(tree):len(tree)+9], "log.new": tree}),
			diskOf(files{"log": tree + more[len(tree):len(tree)+9], "log.new": tree}, renameOp("log.new", "log")),
			synced(files{"log": tree}),
		}},
		{"AcCrash where log.new is left", diskOf(files{"log": torn}, appendOp("log.new", tree)), impl.Act{Kind: impl.AcCrash, Keep: []int64{0}, Torn: 1}, []impl.Disk{
			synced(files{"log": torn, "log.new": tree[:1]}),
			diskOf(files{"log": torn, "log.new": tree[:1]}, removeOp("log.new")),
			diskOf(files{"log": torn, "log.new": tree[:1]}, removeOp("log.new"), appendOp("log.new", tree)),
			synced(files{"log": torn, "log.new": tree}),
			diskOf(files{"log": torn, "log.new": tree}, renameOp("log.new", "log")),
			synced(files{"log": tree}),
		}},
	} {
		for _, power := range powers() {
			c.act.Power = power
			want, code := c.disks[len(c.disks)-1], int64(impl.StOk)
			if power >= 0 && power < int64(len(c.disks)-1) {
				want, code = c.disks[power], impl.StPower
			}
			if e, got := checkAct(t, c.name, c.d, c.act); got != code || !sameDisk(e, want) {
				t.Errorf("%s: with Power %d StoreDo tells %s, %d", c.name, power, brief(e), got)
			}
		}
	}
}

// The codes are written down here, and the disk that is told with them is as it was.
func TestActsRefuse(t *testing.T) {
	first := commitText(idOf(treeA), "first")
	log, none := synced(files{"log": logWith(treeA)}), synced(files{"a": "1", "log.new": logWith(treeA)})
	torn := diskOf(files{"log": logWith(treeA)}, appendOp("log", "x"))
	full, over := synced(files{"log": logWith(trees(60)...)}), synced(files{"log": logWith(trees(61)...)})
	long := strings.Repeat("x", 2001)
	for _, c := range []struct {
		name string
		d    impl.Disk
		act  impl.Act
		code int64
	}{
		{"no Kind", log, impl.Act{}, impl.StForm},
		{"no Kind, without a log", none, impl.Act{Text: treeB}, impl.StForm},
		{"Kind 5", log, impl.Act{Kind: 5}, impl.StForm},
		{"Kind -1", log, impl.Act{Kind: -1}, impl.StForm},
		{"Kind 2 and 2 to the 32", log, impl.Act{Kind: 2 + 1<<32, Text: treeB}, impl.StForm},
		{"a log that is there", log, impl.Act{Kind: impl.AcNew}, impl.StForm},
		{"a log that is there, torn", torn, impl.Act{Kind: impl.AcNew}, impl.StForm},
		{"a log that is there, not synced", diskOf(nil, appendOp("log", "")), impl.Act{Kind: impl.AcNew}, impl.StForm},
		{"an add without a log", none, impl.Act{Kind: impl.AcAdd, Text: treeB}, impl.StNone},
		{"an add without a log, of a long text", none, impl.Act{Kind: impl.AcAdd, Text: long}, impl.StNone},
		{"an add without files", impl.Disk{}, impl.Act{Kind: impl.AcAdd, Text: treeB}, impl.StNone},
		{"an opening without a log", none, impl.Act{Kind: impl.AcOpen}, impl.StNone},
		{"an opening of a log that is gone", diskOf(log0(), removeOp("log")), impl.Act{Kind: impl.AcOpen}, impl.StNone},
		{"2001 bytes", log, impl.Act{Kind: impl.AcAdd, Text: long}, impl.StForm},
		{"2001 bytes, a torn log", torn, impl.Act{Kind: impl.AcAdd, Text: long}, impl.StForm},
		{"2001 bytes, a full log", full, impl.Act{Kind: impl.AcAdd, Text: long}, impl.StForm},
		{"2000 bytes", log, impl.Act{Kind: impl.AcAdd, Text: long[1:]}, impl.StNot},
		{"many bytes", log, impl.Act{Kind: impl.AcAdd, Text: strings.Repeat("x", 300000)}, impl.StForm},
		{"a torn log", torn, impl.Act{Kind: impl.AcAdd, Text: treeB}, impl.StTorn},
		{"a torn log, a text that is there", torn, impl.Act{Kind: impl.AcAdd, Text: treeA}, impl.StTorn},
		{"a torn log, a text that is none", torn, impl.Act{Kind: impl.AcAdd, Text: "abc"}, impl.StTorn},
		{"61 objects in the log", over, impl.Act{Kind: impl.AcAdd, Text: treeB}, impl.StTorn},
		{"60 objects", full, impl.Act{Kind: impl.AcAdd, Text: treeB}, impl.StFull},
		{"60 objects, a text that is there", full, impl.Act{Kind: impl.AcAdd, Text: trees(1)[0]}, impl.StFull},
		{"60 objects, a text that is none", full, impl.Act{Kind: impl.AcAdd, Text: "abc"}, impl.StFull},
		{"a text that is there", log, impl.Act{Kind: impl.AcAdd, Text: treeA}, impl.StNot},
		{"a text that is none", log, impl.Act{Kind: impl.AcAdd, Text: "abc"}, impl.StNot},
		{"the empty text", log, impl.Act{Kind: impl.AcAdd}, impl.StNot},
		{"a commit ahead of its tree", log, impl.Act{Kind: impl.AcAdd, Text: commitText(idOf(treeB), "")}, impl.StNot},
		{"a commit ahead of its parent", log, impl.Act{Kind: impl.AcAdd, Text: commitText(idOf(treeA), "", idOf(first))}, impl.StNot},
		{"a commit whose parent is a tree", log, impl.Act{Kind: impl.AcAdd, Text: commitText(idOf(treeA), "", idOf(treeA))}, impl.StNot},
		{"a tree of keys that fall", log, impl.Act{Kind: impl.AcAdd, Text: "map\nb=1\na=1\n"}, impl.StNot},
		{"a twin", synced(files{"log": logWith(twinTrees[0])}), impl.Act{Kind: impl.AcAdd, Text: twinTrees[1]}, impl.StNot},
		{"a twin of a tree", synced(files{"log": logWith(treeA, twinTreeCommit[0])}), impl.Act{Kind: impl.AcAdd, Text: twinTreeCommit[1]}, impl.StNot},
		{"a crash that keeps one twice", torn, impl.Act{Kind: impl.AcCrash, Keep: []int64{0, 0}}, impl.StForm},
		{"a crash that keeps none of the ops", torn, impl.Act{Kind: impl.AcCrash, Keep: []int64{1}}, impl.StForm},
		{"a crash that keeps below 0", torn, impl.Act{Kind: impl.AcCrash, Keep: []int64{-1, 0}}, impl.StForm},
		{"a crash that is torn below 0", torn, impl.Act{Kind: impl.AcCrash, Torn: -1}, impl.StForm},
		{"a crash that keeps none of the ops, without a log", none, impl.Act{Kind: impl.AcCrash, Keep: []int64{0}}, impl.StForm},
		{"a crash that keeps too many files", diskOf(manyFiles(60, 1), removeOp("f00"), appendOp("log", "")), impl.Act{Kind: impl.AcCrash, Keep: []int64{1}}, impl.StForm},
	} {
		for _, power := range powers() {
			for _, sync := range []bool{false, true} {
				c.act.Power, c.act.Sync = power, sync
				if e, code := checkAct(t, c.name, c.d, c.act); code != c.code || !sameDisk(e, c.d) {
					t.Errorf("%s: StoreDo tells %s, %d", c.name, brief(e), code)
				}
			}
		}
	}
}

// log0 are the files of a disk with a log of one object.
func log0() files { return files{"log": logWith(treeA)} }

// A crash that leaves no log was done, so that the disk is as it was behind it.
func TestCrashThatLeavesNoLog(t *testing.T) {
	for _, c := range []struct {
		name string
		d    impl.Disk
		keep []int64
		want files
	}{
		{"no files", impl.Disk{}, nil, nil},
		{"the log was not synced", diskOf(files{"a": "1"}, appendOp("log", ""), appendOp("b", "2")), []int64{1}, files{"a": "1", "b": "2"}},
		{"the log is gone", diskOf(files{"a": "1", "log": "x"}, removeOp("log"), appendOp("b", "2")), []int64{0}, files{"a": "1"}},
		{"the log has another name", diskOf(files{"log": "x"}, renameOp("log", "b"), renameOp("b", "log")), []int64{0}, files{"b": "x"}},
	} {
		for _, power := range powers() {
			e, code := checkAct(t, c.name, c.d, impl.Act{Kind: impl.AcCrash, Keep: c.keep, Torn: 9, Power: power})
			if code != impl.StNone || !sameDisk(e, synced(c.want)) {
				t.Errorf("%s: StoreDo tells %s, %d", c.name, brief(e), code)
			}
		}
	}
	// There is none that is seen, but one that is left.
	gone := diskOf(files{"log": logWith(treeA)}, removeOp("log"))
	if e, code := checkAct(t, "the log comes back", gone, impl.Act{Kind: impl.AcCrash, Power: -1}); code != impl.StOk || !sameDisk(e, synced(log0())) {
		t.Errorf("the log comes back: StoreDo tells %s, %d", brief(e), code)
	}
}

// A step that is refused is one for which there was power. From which power on
// is written down here.
func TestActsOnFullDisks(t *testing.T) {
	tree, big := logWith(treeA), func(n int) string { return strings.Repeat("x", n) }
	with := func(n int, data files) impl.Disk { return diskOf(data, manyOps(n, "a")...) }
	more := func(n int, data files) files {
		for name, each := range data {
			data = manyFiles(n, 1)
			data[name] = each
		}
		return data
	}
	frame := len(frameOf("1 " + treeB))
	torn := files{"log": tree + "x"}
	both := files{"log": tree + "x", "log.new": "y"}
	never := int64(99)
	for _, c := range []struct {
		name string
		d    impl.Disk
		act  impl.Act
		from int64
	}{
		{"AcNew with 199 ops", with(199, nil), impl.Act{Kind: impl.AcNew}, never},
		{"AcNew with 200 ops", with(200, nil), impl.Act{Kind: impl.AcNew}, 1},
		{"AcNew with 59 files", synced(manyFiles(59, 1)), impl.Act{Kind: impl.AcNew}, never},
		{"AcNew with 60 files", synced(manyFiles(60, 1)), impl.Act{Kind: impl.AcNew}, 1},
		{"AcNew with 200000 bytes", synced(manyFiles(50, 4000)), impl.Act{Kind: impl.AcNew}, never},
		{"AcAdd with 199 ops", with(199, log0()), impl.Act{Kind: impl.AcAdd, Text: treeB}, never},
		{"AcAdd with 200 ops", with(200, log0()), impl.Act{Kind: impl.AcAdd, Text: treeB, Sync: true}, 1},
		{"AcAdd with 60 files", synced(more(59, log0())), impl.Act{Kind: impl.AcAdd, Text: treeB}, never},
		{"AcAdd up to 200000 bytes", synced(files{"a": big(200000 - len(tree) - frame), "log": tree}), impl.Act{Kind: impl.AcAdd, Text: treeB, Sync: true}, never},
		{"AcAdd up to 200001 bytes", synced(files{"a": big(200001 - len(tree) - frame), "log": tree}), impl.Act{Kind: impl.AcAdd, Text: treeB}, 1},
		{"AcOpen with 199 ops", with(199, torn), impl.Act{Kind: impl.AcOpen}, never},
		{"AcOpen with 200 ops", with(200, torn), impl.Act{Kind: impl.AcOpen}, 1},
		{"AcOpen of a good log with 200 ops", with(200, log0()), impl.Act{Kind: impl.AcOpen}, never},
		{"AcOpen with 198 ops and log.new", with(198, both), impl.Act{Kind: impl.AcOpen}, never},
		{"AcOpen with 199 ops and log.new", with(199, both), impl.Act{Kind: impl.AcOpen}, 2},
		{"AcOpen with 200 ops and log.new", with(200, both), impl.Act{Kind: impl.AcOpen}, 1},
		{"AcOpen with 59 files", synced(more(58, torn)), impl.Act{Kind: impl.AcOpen}, never},
		{"AcOpen with 60 files", synced(more(59, torn)), impl.Act{Kind: impl.AcOpen}, 1},
		{"AcOpen up to 200000 bytes", synced(files{"a": big(199999 - 2*len(tree)), "log": tree + "x"}), impl.Act{Kind: impl.AcOpen}, never},
		{"AcOpen up to 200001 bytes", synced(files{"a": big(200000 - 2*len(tree)), "log": tree + "x"}), impl.Act{Kind: impl.AcOpen}, 1},
		{"AcOpen of a torn log of 200000 bytes", synced(files{"log": big(200000)}), impl.Act{Kind: impl.AcOpen}, never},
		{"AcCrash with 200 ops", with(200, torn), impl.Act{Kind: impl.AcCrash, Keep: []int64{0, 199}}, never},
		{"AcCrash with 60 files", diskOf(more(59, torn), removeOp("f00")), impl.Act{Kind: impl.AcCrash}, 1},
		{"AcCrash with 59 files left", diskOf(more(59, torn), removeOp("f00")), impl.Act{Kind: impl.AcCrash, Keep: []int64{0}}, never},
		{"AcCrash with 60 files, good", diskOf(more(59, log0()), removeOp("f00")), impl.Act{Kind: impl.AcCrash}, never},
	} {
		was, _ := acted(c.d, impl.Act{Kind: c.act.Kind, Keep: c.act.Keep})
		if c.act.Kind != impl.AcCrash {
			was = c.d
		}
		for _, power := range powers() {
			c.act.Power = power
			refused := c.from != never && (power < 0 || power >= c.from)
			e, code := checkAct(t, c.name, c.d, c.act)
			if (code == impl.StFull) != refused || refused && !sameDisk(e, was) {
				t.Errorf("%s: with Power %d StoreDo tells %s, %d", c.name, power, brief(e), code)
			}
		}
	}
}

func TestStoreCallsRefuseDisksThatAreNotRight(t *testing.T) {
	for why, d := range notRightDisks() {
		if l, code := impl.StoreView(d); code != impl.StDisk || len(l) != 0 {
			t.Errorf("%s: StoreView tells %q, %d", why, l, code)
		}
		for kind := range int64(6) {
			for _, power := range []int64{-1, 0, 9} {
				a := impl.Act{Kind: kind, Text: treeA, Power: power, Torn: kind - 4}
				if e, code := impl.StoreDo(d, a); code != impl.StDisk || !sameDisk(e, impl.Disk{}) {
					t.Errorf("%s: StoreDo tells %s, %d", why, brief(e), code)
				}
				if e, codes := impl.StorePlay(d, []impl.Act{a, {Kind: impl.AcNew}}); len(codes) != 0 || !sameDisk(e, impl.Disk{}) {
					t.Errorf("%s: StorePlay tells %s, %v", why, brief(e), codes)
				}
			}
		}
		if e, codes := impl.StorePlay(d, nil); len(codes) != 0 || !sameDisk(e, impl.Disk{}) {
			t.Errorf("%s: StorePlay of no acts tells %s, %v", why, brief(e), codes)
		}
	}
}

// An opening makes each log good, and leaves what counts.
func TestOpeningOfLogs(t *testing.T) {
	for _, c := range logs() {
		for name, d := range map[string]impl.Disk{
			"synced":       synced(files{"a": "1", "log": c.log}),
			"with log.new": synced(files{"log": c.log, "log.new": "x"}),
			"not synced":   diskOf(files{"log": c.log[:len(c.log)/2], "z": ""}, appendOp("log", c.log[len(c.log)/2:]), appendOp("log.new", "y")),
		} {
			name = c.name + ", " + name
			for _, power := range powers() {
				e, code := checkAct(t, name, d, impl.Act{Kind: impl.AcOpen, Power: power})
				checkView(t, name, e, c.texts...)
				if c.good && (code != impl.StOk || !sameDisk(e, d)) {
					t.Errorf("%s: the log is good, but StoreDo tells %s, %d", name, brief(e), code)
				}
			}
			e, _ := impl.StoreDo(d, impl.Act{Kind: impl.AcOpen, Power: -1})
			if s, ok := impl.ReadFile(e, "log"); !ok || s != logWith(c.texts...) {
				t.Errorf("%s: behind an opening the log is %.100q", name, s)
			}
			_, code := impl.StoreDo(e, impl.Act{Kind: impl.AcAdd, Text: "map\nnew=1\n", Power: -1})
			if want := int64(len(c.texts) / 60 * impl.StFull); code != want {
				t.Errorf("%s: behind an opening an add is told %d", name, code)
			}
		}
	}
}

// A store that is made by acts alone, up to 60 objects and not one more.
func TestStoreOfSixtyObjects(t *testing.T) {
	for _, list := range [][]string{trees(61), append(someTexts(60), "map\nlast=1\n")} {
		acts := []impl.Act{{Kind: impl.AcNew, Power: -1}}
		for i, text := range list {
			acts = append(acts, impl.Act{Kind: impl.AcAdd, Text: text, Sync: i%20 == 3, Power: -1})
		}
		d, codes := impl.StorePlay(impl.Disk{}, acts)
		want := make([]int64, 62)
		want[61] = impl.StFull
		if !slices.Equal(codes, want) {
			t.Errorf("StorePlay tells %v", codes)
		}
		checkView(t, "60 objects", d, list[:60]...)
		if s, _ := impl.ReadFile(d, "log"); s != logWith(list[:60]...) {
			t.Errorf("the log is %.200q", s)
		}
		if len(d.Ops) != 16 {
			t.Errorf("%d ops are not synced", len(d.Ops))
		}
	}
}

// act is one that may be refused; texts are what it may add.
func (c *chance) act(d impl.Disk, texts []string) impl.Act {
	a := impl.Act{Kind: int64(1 + c.below(4)), Text: texts[c.below(len(texts))], Sync: c.below(3) == 0, Power: int64(c.below(8)), Torn: int64(c.below(60))}
	if c.below(3) > 0 {
		a.Kind = impl.AcAdd
	}
	if a.Power > 5 {
		a.Power = -1
	}
	for at := range d.Ops {
		if c.below(4) > 0 {
			a.Keep = append(a.Keep, int64(at))
		}
	}
	if c.below(20) == 0 {
		a.Kind, a.Torn = int64(c.below(7)-1), int64(c.below(3)-1)
	}
	return a
}

func TestStoreDoAndStorePlayByChance(t *testing.T) {
	texts := append(someTexts(14), "abc", "", treeA, commitText(idOf(treeB), ""), strings.Repeat("x", 2001))
	times := map[int64]int{}
	for seed := range uint32(40) {
		c := chance{seed}
		start := c.disk(int(seed) % 5)
		if seed%2 == 0 {
			start = impl.Disk{}
		}
		d := start
		var acts []impl.Act
		var codes []int64
		for i := range 60 {
			a := c.act(d, texts)
			if i == 0 {
				a = impl.Act{Kind: impl.AcNew, Power: int64(c.below(3) - 1)}
			}
			e, code := checkAct(t, fmt.Sprint("by chance ", seed), d, a)
			times[code]++
			acts, codes, d = append(acts, a), append(codes, code), e
			if c.below(30) == 0 {
				d, _ = impl.Do(d, appendOp("log", "noise"))
				start, acts, codes = d, nil, nil
			}
		}
		if e, l := impl.StorePlay(start, acts); !sameDisk(e, d) || !slices.Equal(l, codes) {
			t.Errorf("by chance %d: StorePlay tells %s, %v, not %s, %v", seed, brief(e), l, brief(d), codes)
		}
	}
	for _, code := range []int64{impl.StOk, impl.StNone, impl.StForm, impl.StPower, impl.StTorn, impl.StNot} {
		if times[code] < 10 {
			t.Errorf("the code %d was told only %d times", code, times[code])
		}
	}
}

// The codes are written down here.
func TestStorePlay(t *testing.T) {
	first := commitText(idOf(treeA), "first")
	d, codes := impl.StorePlay(synced(files{"a": "1"}), []impl.Act{
		{Kind: impl.AcOpen, Power: -1},
		{Kind: impl.AcNew, Power: 0},
		{Kind: impl.AcNew, Power: -1},
		{Kind: impl.AcAdd, Text: first, Power: -1},
		{Kind: impl.AcAdd, Text: treeA, Sync: true, Power: -1},
		{Kind: impl.AcAdd, Text: first, Power: 1},
		{Kind: impl.AcAdd, Text: treeB, Sync: true, Power: 1},
		{Kind: 9},
		{Kind: impl.AcCrash, Keep: []int64{0, 1}, Torn: 7, Power: 1},
		{Kind: impl.AcAdd, Text: treeB, Power: -1},
		{Kind: impl.AcOpen, Power: -1},
		{Kind: impl.AcAdd, Text: first, Power: -1},
		{Kind: impl.AcAdd, Text: treeB, Power: -1},
	})
	if want := []int64{2, 5, 0, 8, 0, 0, 5, 3, 5, 6, 0, 8, 0}; !slices.Equal(codes, want) {
		t.Errorf("StorePlay tells %v", codes)
	}
	tree := logWith(treeA, first)
	if !sameDisk(d, diskOf(files{"a": "1", "log": tree}, appendOp("log", frameOf("2 "+treeB)))) {
		t.Errorf("StorePlay tells %s", brief(d))
	}
	for name, d := range rightDisks() {
		if e, codes := impl.StorePlay(d, nil); len(codes) != 0 || !sameDisk(e, d) {
			t.Errorf("%s: StorePlay of no acts tells %s, %v", name, brief(e), codes)
		}
	}
}

// played is a store with what is known of it: the texts that were added, and
// how many of them were there at the last sync; none, without a log, is -1.
type played struct {
	d     impl.Disk
	texts []string
	sure  int
}

// first tells how many of the texts there are, when it is some first ones, as
// many as were there at the last sync at least.
func (p played) first(d impl.Disk) (int, bool) {
	l, code := impl.StoreView(d)
	if code == impl.StNone {
		return -1, p.sure == -1
	}
	n := len(l)
	return n, code == impl.StOk && n >= p.sure && n <= len(p.texts) && slices.Equal(l, objsOf(p.texts[:n]...)) && impl.RepoOk(l)
}

// checkLoss loses power, and once more while what is left is opened.
func (p played) checkLoss(t *testing.T, name string, keep []int64, torn int64) {
	t.Helper()
	d, ok := impl.Crash(p.d, keep, torn)
	n, fine := p.first(d)
	if !ok || !fine {
		t.Errorf("%s: with %v and %d kept there are %d objects of %d, %d at the last sync", name, keep, torn, n, len(p.texts), p.sure)
	}
	for power := int64(-1); power < 6; power++ {
		e, code := impl.StoreDo(p.d, impl.Act{Kind: impl.AcCrash, Keep: keep, Torn: torn, Power: power})
		if m, ok := p.first(e); !ok || m != n {
			t.Errorf("%s: with %v and %d kept, opened with %d, there are %d objects, not %d", name, keep, torn, power, m, n)
		}
		if code != impl.StPower {
			continue
		}
		for _, more := range keeps(len(e.Ops)) {
			for _, torn := range []int64{0, 9, 999} {
				g, code := impl.StoreDo(e, impl.Act{Kind: impl.AcCrash, Keep: more, Torn: torn, Power: -1})
				if m, ok := p.first(g); code != impl.StOk || !ok || m != n {
					t.Errorf("%s: with %v kept, and then %v, there are %d objects, not %d", name, keep, more, m, n)
				}
			}
		}
	}
}

// Between any two steps, whatever is kept.
func TestStoresKeepTheirPromise(t *testing.T) {
	texts := someTexts(6)
	for syncs := range 16 {
		p := played{d: synced(files{"a": "1", "log.new": "left"}), sure: -1}
		acts := []impl.Act{{Kind: impl.AcNew}}
		for i, text := range texts[:4] {
			acts = append(acts, impl.Act{Kind: impl.AcAdd, Text: text, Sync: syncs>>i&1 == 1})
		}
		for i, a := range acts {
			was := p
			code := int64(impl.StPower)
			for a.Power = 0; code == impl.StPower && a.Power < 3; a.Power++ {
				p.d, code = impl.StoreDo(was.d, a)
				if a.Power == 1 && i > 0 {
					p.texts = texts[:i]
				}
				if code == impl.StOk && (i == 0 || a.Sync) {
					p.sure = len(p.texts)
				}
				for _, keep := range keeps(len(p.d.Ops)) {
					for _, torn := range []int64{0, 1, 8, 9, 11, 999} {
						p.checkLoss(t, fmt.Sprint("syncs ", syncs, ", act ", i, ", power ", a.Power), keep, torn)
					}
				}
			}
			if code != impl.StOk {
				t.Fatalf("syncs %d, act %d: StoreDo tells %d in the end", syncs, i, code)
			}
		}
	}
}

// after is what is known of a store behind an act that was told this code.
func (p played) after(a impl.Act, e impl.Disk, code int64) (played, bool) {
	p.d = e
	n, ok := p.first(e)
	switch {
	case a.Kind == impl.AcCrash && code != impl.StForm:
		// What is left is all there is, and safe.
		return played{d: e, texts: p.texts[:max(n, 0)], sure: n}, ok
	case a.Kind == impl.AcAdd && (code == impl.StOk || code == impl.StPower && a.Power == 1):
		p.texts = append(slices.Clone(p.texts), a.Text)
	}
	if len(e.Ops) == 0 && (code == impl.StOk || code == impl.StPower) {
		p.sure = len(p.texts)
		if _, there := dataOf(e.Live)["log"]; !there {
			p.sure = -1
		}
	}
	n, ok = p.first(e)
	return p, ok && (n == len(p.texts) || n == -1)
}

func TestStoresKeepTheirPromiseByChance(t *testing.T) {
	texts := append(someTexts(30), "abc", treeA)
	most, losses := 0, 0
	for seed := range uint32(30) {
		c := chance{seed + 500}
		p := played{sure: -1}
		for i := range 80 {
			name := fmt.Sprint("by chance ", seed, ", act ", i)
			a := c.act(p.d, texts)
			if a.Kind == impl.AcCrash && c.below(2) == 0 {
				a.Kind = impl.AcAdd
			}
			if p.sure == -1 {
				a = impl.Act{Kind: impl.AcNew, Power: int64(c.below(4) - 1)}
			}
			e, code := impl.StoreDo(p.d, a)
			next, ok := p.after(a, e, code)
			if !ok {
				t.Fatalf("%s: %s leaves %s, %d; there were %d texts, %d at the last sync", name, briefAct(a), brief(e), code, len(p.texts), p.sure)
			}
			if a.Kind == impl.AcCrash && len(next.texts) < len(p.texts) {
				losses++
			}
			p, most = next, max(most, len(next.texts))
			p.checkLoss(t, name, c.act(p.d, texts).Keep, int64(c.below(60)))
		}
	}
	if most < 10 || losses < 20 {
		t.Errorf("there were %d texts at most, and %d losses", most, losses)
	}
}

func TestStoreCallsLeaveTheirArguments(t *testing.T) {
	disks := map[string]impl.Disk{}
	for _, c := range logs() {
		disks[c.name] = synced(files{"log": c.log, "log.new": "x"})
		disks[c.name+", not synced"] = diskOf(files{"a": "1"}, appendOp("log", c.log), appendOp("b", ""))
	}
	for name, d := range rightDisks() {
		disks["disk: "+name] = d
	}
	for why, d := range notRightDisks() {
		disks["not right: "+why] = d
	}
	for name, d := range disks {
		r := newRoomyDisk(d)
		l, _ := impl.StoreView(r.disk())
		spoil(l, spareObj)
		r.check(t, name+": StoreView")
		var acts []impl.Act
		for kind := range int64(6) {
			for _, power := range []int64{-1, 0, 1, 2} {
				keep := newRoomy([]int64{0, 1}, 99)
				a := impl.Act{Kind: kind, Text: "map\nnew=1\n", Sync: true, Power: power, Keep: keep.list(), Torn: 3}
				e, _ := impl.StoreDo(r.disk(), a)
				spoilDisk(t, fmt.Sprint(name, ": StoreDo of Kind ", kind), e)
				r.check(t, name+": StoreDo")
				keep.check(t, name+": StoreDo")
				acts = append(acts, a)
			}
		}
		was := slices.Clone(acts)
		for i := range was {
			was[i].Keep = slices.Clone(was[i].Keep)
		}
		for _, list := range [][]impl.Act{nil, acts[:1], acts[4:7], acts} {
			e, codes := impl.StorePlay(r.disk(), list)
			spoilDisk(t, name+": StorePlay", e)
			spoil(codes, 99)
			r.check(t, name+": StorePlay")
			if !reflect.DeepEqual(acts, was) {
				t.Errorf("%s: StorePlay wrote into its acts", name)
			}
		}
	}
}

func TestStoreCallsAnswerTheSameAgain(t *testing.T) {
	log := logWith(someTexts(9)...)
	d := diskOf(files{"log": log[:300]}, appendOp("log", log[300:]), appendOp("log", "torn"))
	for range 10 {
		checkTakeFrames(t, log)
		checkView(t, "again", d, someTexts(9)...)
		for kind := range int64(6) {
			for _, power := range powers() {
				e, _ := checkAct(t, "again", d, impl.Act{Kind: kind, Text: "map\nnew=1\n", Power: power, Keep: []int64{0}, Torn: 200})
				spoilDisk(t, "again", e)
			}
		}
		l, _ := impl.StoreView(d)
		spoil(l, spareObj)
		frames, _ := impl.TakeFrames(log)
		spoil(frames, "spoilt")
		e, codes := impl.StorePlay(d, []impl.Act{{Kind: impl.AcOpen, Power: -1}, {Kind: impl.AcAdd, Text: "map\n", Power: -1}})
		want := diskOf(files{"log": log}, appendOp("log", frameOf("9 map\n")))
		if !slices.Equal(codes, []int64{0, 0}) || !sameDisk(e, want) {
			t.Errorf("StorePlay tells %s, %v", brief(e), codes)
		}
		spoilDisk(t, "again", e)
		spoil(codes, 99)
	}
}

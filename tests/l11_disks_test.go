package tests

import (
	"fmt"
	"maps"
	"math"
	"slices"
	"strings"
	"testing"

	"loop.example/g00652/impl"
)

func checkDo(t *testing.T, name string, d impl.Disk, op impl.DOp) int64 {
	t.Helper()
	want, code := doneOn(d, op)
	e, c := impl.Do(d, op)
	if c != code || !sameDisk(e, want) {
		t.Errorf("%s: Do of %.100q tells %s, %d, not %s, %d", name, fmt.Sprint(op), brief(e), c, brief(want), code)
	}
	return c
}

func checkCrash(t *testing.T, name string, d impl.Disk, keep []int64, torn int64) bool {
	t.Helper()
	want, right := left(d, keep, torn)
	e, ok := impl.Crash(d, keep, torn)
	if ok != right || !sameDisk(e, want) {
		t.Errorf("%s: Crash with %v and %d tells %s, %v, not %s, %v", name, keep, torn, brief(e), ok, brief(want), right)
	}
	return ok
}

// replaced is Replace as the document has it.
func replaced(d impl.Disk, name, data string) (impl.Disk, int64) {
	ops := []impl.DOp{appendOp(name+".new", data), renameOp(name+".new", name)}
	if _, there := dataOf(d.Live)[name+".new"]; there {
		ops = slices.Insert(ops, 0, removeOp(name+".new"))
	}
	out := d
	for _, op := range ops {
		e, c := doneOn(out, op)
		if c == 1 {
			return impl.Disk{}, c
		} else if c != 0 {
			return d, c
		}
		out = e
	}
	return out, 0
}

func checkReplace(t *testing.T, what string, d impl.Disk, name, data string) int64 {
	t.Helper()
	want, code := replaced(d, name, data)
	e, c := impl.Replace(d, name, data)
	if c != code || !sameDisk(e, want) {
		t.Errorf("%s: Replace of %.120q tells %s, %d, not %s, %d", what, name, brief(e), c, brief(want), code)
	}
	return c
}

func TestConstantsOfDisks(t *testing.T) {
	got := []int{impl.MaxFiles, impl.MaxBytes, impl.MaxOps, impl.DkAppend, impl.DkRename, impl.DkRemove, impl.DkOk, impl.DkDisk, impl.DkForm, impl.DkNone, impl.DkFull}
	if !slices.Equal(got, []int{60, 200000, 200, 1, 2, 3, 0, 1, 2, 3, 4}) {
		t.Error(got)
	}
}

func TestDiskOk(t *testing.T) {
	for name, d := range rightDisks() {
		if !impl.DiskOk(d) {
			t.Errorf("%s: DiskOk tells false", name)
		}
	}
	for why, d := range notRightDisks() {
		if impl.DiskOk(d) {
			t.Errorf("%s: DiskOk tells true", why)
		}
	}
}

// Disks of which one thing is another one, is gone, or is there in addition.
func TestDiskOkOfDisksNearby(t *testing.T) {
	check := func(name string, d impl.Disk) {
		t.Helper()
		if ok := impl.DiskOk(d); ok != diskRight(d) {
			t.Errorf("%s: DiskOk of %s tells %v", name, brief(d), ok)
		}
	}
	nearby := func(l []impl.File) [][]impl.File {
		out := [][]impl.File{append(slices.Clone(l), impl.File{Name: "z"}), append([]impl.File{{}}, l...)}
		for i := range l {
			out = append(out, slices.Delete(slices.Clone(l), i, i+1), slices.Insert(slices.Clone(l), i, l[i]))
			other := slices.Clone(l)
			other[i].Data += "x"
			more := slices.Clone(l)
			more[i].Name += "x"
			out = append(out, other, more)
			if i > 0 {
				turned := slices.Clone(l)
				turned[i-1], turned[i] = l[i], l[i-1]
				out = append(out, turned)
			}
		}
		return out
	}
	for name, d := range rightDisks() {
		for _, l := range nearby(d.Live) {
			check(name+", other files seen", impl.Disk{Live: l, Safe: d.Safe, Ops: d.Ops})
			check(name+", other files safe", impl.Disk{Live: d.Live, Safe: l, Ops: d.Ops})
		}
		for i := range min(len(d.Ops), 12) {
			check(name+", one op less", impl.Disk{Live: d.Live, Safe: d.Safe, Ops: slices.Delete(slices.Clone(d.Ops), i, i+1)})
			check(name+", one op twice", impl.Disk{Live: d.Live, Safe: d.Safe, Ops: slices.Insert(slices.Clone(d.Ops), i, d.Ops[i])})
			for kind := range int64(5) {
				ops := slices.Clone(d.Ops)
				ops[i].Kind = kind
				check(name+", another Kind", impl.Disk{Live: d.Live, Safe: d.Safe, Ops: ops})
			}
		}
	}
}

// The answers are written down here.
func TestDoOfEachKind(t *testing.T) {
	was := files{"a": "1", "c": "3"}
	for _, c := range []struct {
		name string
		op   impl.DOp
		live files
		code int64
	}{
		{"an append", appendOp("a", "x"), files{"a": "1x", "c": "3"}, impl.DkOk},
		{"an append of nothing", appendOp("a", ""), was, impl.DkOk},
		{"an append to a new file", appendOp("b", "x"), files{"a": "1", "b": "x", "c": "3"}, impl.DkOk},
		{"an append to a new first file", appendOp("A", "x"), files{"A": "x", "a": "1", "c": "3"}, impl.DkOk},
		{"an append to a new last file", appendOp("cc", "x"), files{"a": "1", "c": "3", "cc": "x"}, impl.DkOk},
		{"an append of nothing to a new file", appendOp("b", ""), files{"a": "1", "b": "", "c": "3"}, impl.DkOk},
		{"bytes of all kinds", appendOp("\x00\xff\n", "\x00\xff\n"), files{"\x00\xff\n": "\x00\xff\n", "a": "1", "c": "3"}, impl.DkOk},
		{"a rename", renameOp("a", "b"), files{"b": "1", "c": "3"}, impl.DkOk},
		{"a rename behind another one", renameOp("a", "d"), files{"c": "3", "d": "1"}, impl.DkOk},
		{"a rename onto another one", renameOp("a", "c"), files{"c": "1"}, impl.DkOk},
		{"a rename onto one ahead", renameOp("c", "a"), files{"a": "3"}, impl.DkOk},
		{"a rename onto itself", renameOp("c", "c"), was, impl.DkOk},
		{"a removal", removeOp("a"), files{"c": "3"}, impl.DkOk},
		{"a removal of the last", removeOp("c"), files{"a": "1"}, impl.DkOk},
		{"a rename of none", renameOp("b", "d"), was, impl.DkNone},
		{"a rename of none onto a file", renameOp("b", "a"), was, impl.DkNone},
		{"a rename of none onto itself", renameOp("b", "b"), was, impl.DkNone},
		{"a removal of none", removeOp("b"), was, impl.DkNone},
		{"a removal of what begins alike", removeOp("aa"), was, impl.DkNone},
		{"no Kind", impl.DOp{Name: "a"}, was, impl.DkForm},
		{"Kind 4", impl.DOp{Kind: 4, Name: "a"}, was, impl.DkForm},
		{"no name", appendOp("", "x"), was, impl.DkForm},
		{"an append with To", impl.DOp{Kind: impl.DkAppend, Name: "a", To: "b"}, was, impl.DkForm},
		{"a removal with To", impl.DOp{Kind: impl.DkRemove, Name: "a", To: "b"}, was, impl.DkForm},
		{"a removal of none with Data", impl.DOp{Kind: impl.DkRemove, Name: "b", Data: "1"}, was, impl.DkForm},
		{"a rename with Data", impl.DOp{Kind: impl.DkRename, Name: "a", To: "b", Data: "1"}, was, impl.DkForm},
		{"a rename of none to no name", renameOp("b", ""), was, impl.DkForm},
	} {
		want := impl.Disk{Live: filesOf(c.live), Safe: filesOf(was)}
		if c.code == impl.DkOk {
			want.Ops = []impl.DOp{c.op}
		}
		if e, code := impl.Do(synced(was), c.op); code != c.code || !sameDisk(e, want) {
			t.Errorf("%s: Do tells %s, %d", c.name, brief(e), code)
		}
	}
}

// someOps are of each form, and of none.
func someOps() []impl.DOp {
	var out []impl.DOp
	long := strings.Repeat("n", 100)
	names := []string{"", "a", "b", "f07", "log", long, long + "n", "\x00"}
	for _, kind := range []int64{-1, 0, 1, 2, 3, 4, 257, math.MinInt64, math.MaxInt64} {
		for _, name := range names {
			for _, to := range names {
				for _, data := range []string{"", "x", strings.Repeat("y", 50)} {
					out = append(out, impl.DOp{Kind: kind, Name: name, To: to, Data: data})
				}
			}
		}
	}
	return out
}

func TestDoOnAllDisks(t *testing.T) {
	codes := map[int64]int{}
	for name, d := range rightDisks() {
		for i, op := range someOps() {
			// The full ones take their time.
			if i%7 == len(name)%7 || len(d.Live) < 10 && len(d.Ops) < 100 {
				codes[checkDo(t, name, d, op)]++
			}
		}
	}
	for code := range int64(5) {
		if code != impl.DkDisk && codes[code] < 20 {
			t.Errorf("the code %d was told only %d times", code, codes[code])
		}
	}
}

func TestDoAtTheSizesOfNames(t *testing.T) {
	for _, size := range []int{0, 1, 2, 99, 100, 101, 102, 256, 100000} {
		name := strings.Repeat("n", size)
		want := int64(impl.DkOk)
		if size < 1 || size > 100 {
			want = impl.DkForm
		}
		d := synced(files{"a": "1"})
		if code := checkDo(t, "an append", d, appendOp(name, "x")); code != want {
			t.Errorf("an append to a name of %d bytes is told %d", size, code)
		}
		if code := checkDo(t, "a rename", d, renameOp("a", name)); code != want {
			t.Errorf("a rename to a name of %d bytes is told %d", size, code)
		}
		if want == impl.DkOk {
			d = synced(files{name: "1"})
		}
		if code := checkDo(t, "a rename", d, renameOp(name, "b")); code != want {
			t.Errorf("a rename of a name of %d bytes is told %d", size, code)
		}
		if code := checkDo(t, "a removal", d, removeOp(name)); code != want {
			t.Errorf("a removal of a name of %d bytes is told %d", size, code)
		}
	}
}

// The codes are written down here.
func TestDoAtItsLimits(t *testing.T) {
	big := func(n int) string { return strings.Repeat("x", n) }
	full := synced(files{"a": big(100000), "b": big(99990)})
	for _, c := range []struct {
		name string
		d    impl.Disk
		op   impl.DOp
		code int64
	}{
		{"the file 60", synced(manyFiles(59, 1)), appendOp("a", ""), impl.DkOk},
		{"the file 61", synced(manyFiles(60, 1)), appendOp("a", ""), impl.DkFull},
		{"more in one of 60", synced(manyFiles(60, 1)), appendOp("f59", "x"), impl.DkOk},
		{"one of 60 renamed", synced(manyFiles(60, 1)), renameOp("f59", "a"), impl.DkOk},
		{"one of 60 removed", synced(manyFiles(60, 1)), removeOp("f00"), impl.DkOk},
		{"200000 bytes at once", impl.Disk{}, appendOp("a", big(200000)), impl.DkOk},
		{"200001 bytes at once", impl.Disk{}, appendOp("a", big(200001)), impl.DkFull},
		{"many bytes at once", impl.Disk{}, appendOp("a", big(3000000)), impl.DkFull},
		{"199999 bytes in all", full, appendOp("a", big(9)), impl.DkOk},
		{"200000 bytes in all", full, appendOp("a", big(10)), impl.DkOk},
		{"200001 bytes in all", full, appendOp("a", big(11)), impl.DkFull},
		{"200000 bytes with a new file", full, appendOp("c", big(10)), impl.DkOk},
		{"200001 bytes with a new file", full, appendOp("c", big(11)), impl.DkFull},
		{"nothing behind 200000 bytes", synced(manyFiles(50, 4000)), appendOp("f00", ""), impl.DkOk},
		{"a new file behind 200000 bytes", synced(manyFiles(50, 4000)), appendOp("a", ""), impl.DkOk},
		{"one byte behind 200000", synced(manyFiles(50, 4000)), appendOp("f00", "x"), impl.DkFull},
		{"200000 bytes, a rename", synced(manyFiles(50, 4000)), renameOp("f00", "a"), impl.DkOk},
		{"200000 bytes, a rename onto a file", synced(manyFiles(50, 4000)), renameOp("f00", "f01"), impl.DkOk},
		{"200000 bytes, a rename onto itself", synced(manyFiles(50, 4000)), renameOp("f00", "f00"), impl.DkOk},
		{"a name in full files", synced(manyFiles(60, 1)), appendOp(big(101), ""), impl.DkForm},
		{"a rename of none in full files", synced(manyFiles(60, 1)), renameOp("a", "b"), impl.DkNone},
		{"op 200", diskOf(nil, manyOps(199, "a")...), appendOp("a", "x"), impl.DkOk},
		{"op 201", diskOf(nil, manyOps(200, "a")...), appendOp("a", "x"), impl.DkFull},
		{"op 201, of nothing", diskOf(nil, manyOps(200, "a")...), appendOp("a", ""), impl.DkFull},
		{"op 201, a rename", diskOf(nil, manyOps(200, "a")...), renameOp("a", "b"), impl.DkFull},
		{"op 201, a removal", diskOf(nil, manyOps(200, "a")...), removeOp("a"), impl.DkFull},
		{"op 201, a rename of none", diskOf(nil, manyOps(200, "a")...), renameOp("b", "a"), impl.DkNone},
		{"op 201, a removal of none", diskOf(nil, manyOps(200, "a")...), removeOp("b"), impl.DkNone},
		{"op 201, of no Kind", diskOf(nil, manyOps(200, "a")...), impl.DOp{Name: "a"}, impl.DkForm},
		{"what is safe does not count", diskOf(files{"a": big(200000)}, removeOp("a")), appendOp("b", big(200000)), impl.DkOk},
		{"what is safe does not count for files", diskOf(manyFiles(60, 1), removeOp("f00")), appendOp("a", "x"), impl.DkOk},
	} {
		if code := checkDo(t, c.name, c.d, c.op); code != c.code {
			t.Errorf("%s: Do tells %d, not %d", c.name, code, c.code)
		}
	}
}

func TestSync(t *testing.T) {
	for name, d := range rightDisks() {
		if e := impl.Sync(d); !sameDisk(e, impl.Disk{Live: d.Live, Safe: d.Live}) {
			t.Errorf("%s: Sync tells %s", name, brief(e))
		}
	}
}

func TestReadFile(t *testing.T) {
	for name, d := range rightDisks() {
		live := dataOf(d.Live)
		others := []string{"", "a", "aa", "b", "log", "LOG", "f0", "f000", "\x00", "\xff", strings.Repeat("n", 101)}
		for _, f := range slices.Concat(d.Live, d.Safe) {
			others = append(others, f.Name, f.Name+"x", f.Name[1:])
		}
		for _, each := range others {
			data, there := live[each]
			if s, ok := impl.ReadFile(d, each); ok != there || s != data {
				t.Errorf("%s: ReadFile of %q tells %.100q, %v", name, each, s, ok)
			}
		}
	}
}

func TestDiskCallsRefuseDisksThatAreNotRight(t *testing.T) {
	for why, d := range notRightDisks() {
		for _, op := range []impl.DOp{appendOp("log", "x"), renameOp("log", "z"), removeOp("x"), {}} {
			if e, c := impl.Do(d, op); c != impl.DkDisk || !sameDisk(e, impl.Disk{}) {
				t.Errorf("%s: Do tells %s, %d", why, brief(e), c)
			}
		}
		if e := impl.Sync(d); !sameDisk(e, impl.Disk{}) {
			t.Errorf("%s: Sync tells %s", why, brief(e))
		}
		for _, keep := range [][]int64{nil, {0}, {-1}, allOf(d)} {
			if e, ok := impl.Crash(d, keep, int64(len(keep)-1)); ok || !sameDisk(e, impl.Disk{}) {
				t.Errorf("%s: Crash tells %s, %v", why, brief(e), ok)
			}
		}
		for _, name := range []string{"log", "z", "", "x"} {
			if s, ok := impl.ReadFile(d, name); ok || s != "" {
				t.Errorf("%s: ReadFile tells %.100q, %v", why, s, ok)
			}
			if e, c := impl.Replace(d, name, "x"); c != impl.DkDisk || !sameDisk(e, impl.Disk{}) {
				t.Errorf("%s: Replace tells %s, %d", why, brief(e), c)
			}
		}
	}
}

// The answers are written down here.
func TestCrashOfNamedOps(t *testing.T) {
	safe := files{"a": "1", "b": "2"}
	for _, c := range []struct {
		name string
		ops  []impl.DOp
		keep []int64
		torn int64
		want files
	}{
		{"no ops", nil, nil, 0, safe},
		{"nothing kept", []impl.DOp{appendOp("a", "xyz"), removeOp("b")}, nil, 9, safe},
		{"torn at 0", []impl.DOp{appendOp("a", "xyz")}, []int64{0}, 0, safe},
		{"torn at 1", []impl.DOp{appendOp("a", "xyz")}, []int64{0}, 1, files{"a": "1x", "b": "2"}},
		{"torn at 2", []impl.DOp{appendOp("a", "xyz")}, []int64{0}, 2, files{"a": "1xy", "b": "2"}},
		{"torn at its end", []impl.DOp{appendOp("a", "xyz")}, []int64{0}, 3, files{"a": "1xyz", "b": "2"}},
		{"torn beyond", []impl.DOp{appendOp("a", "xyz")}, []int64{0}, 4, files{"a": "1xyz", "b": "2"}},
		{"torn far beyond", []impl.DOp{appendOp("a", "xyz")}, []int64{0}, math.MaxInt64, files{"a": "1xyz", "b": "2"}},
		{"a new file, torn at 0", []impl.DOp{appendOp("c", "xyz")}, []int64{0}, 0, files{"a": "1", "b": "2", "c": ""}},
		{"an append of nothing", []impl.DOp{appendOp("c", "")}, []int64{0}, 1, files{"a": "1", "b": "2", "c": ""}},
		{"the last one is torn alone", []impl.DOp{appendOp("a", "xyz"), appendOp("b", "uvw")}, []int64{0, 1}, 1, files{"a": "1xyz", "b": "2u"}},
		{"the last one kept is torn", []impl.DOp{appendOp("a", "xyz"), appendOp("b", "uvw")}, []int64{0}, 1, files{"a": "1x", "b": "2"}},
		{"the first one is not kept", []impl.DOp{appendOp("a", "xyz"), appendOp("a", "uvw")}, []int64{1}, 2, files{"a": "1uv", "b": "2"}},
		{"the last one is a removal", []impl.DOp{appendOp("a", "xyz"), removeOp("b")}, []int64{0, 1}, 0, files{"a": "1xyz"}},
		{"the last one is a rename", []impl.DOp{appendOp("a", "xyz"), renameOp("b", "c")}, []int64{0, 1}, 1, files{"a": "1xyz", "c": "2"}},
		{"a rename alone, torn at 0", []impl.DOp{renameOp("a", "b")}, []int64{0}, 0, files{"b": "1"}},
		{"the last one finds no file", []impl.DOp{appendOp("c", "xyz"), appendOp("a", "uvw"), removeOp("c")}, []int64{1, 2}, 1, files{"a": "1uvw", "b": "2"}},
		{"a removal finds no file", []impl.DOp{appendOp("c", "x"), removeOp("c")}, []int64{1}, 0, safe},
		{"a rename finds no file", []impl.DOp{appendOp("c", "x"), renameOp("c", "a")}, []int64{1}, 0, safe},
		{"a rename finds another file", []impl.DOp{renameOp("a", "b"), renameOp("b", "a")}, []int64{1}, 0, files{"a": "2"}},
		{"a rename that is not kept", []impl.DOp{renameOp("a", "c"), appendOp("c", "x")}, []int64{1}, 9, files{"a": "1", "b": "2", "c": "x"}},
		{"a removal that is not kept", []impl.DOp{removeOp("a"), appendOp("a", "x")}, []int64{1}, 9, files{"a": "1x", "b": "2"}},
		{"a rename onto itself", []impl.DOp{renameOp("a", "a"), removeOp("b")}, []int64{0}, 0, safe},
		{"all go", []impl.DOp{removeOp("a"), removeOp("b")}, []int64{0, 1}, 0, nil},
	} {
		e, ok := impl.Crash(diskOf(safe, c.ops...), c.keep, c.torn)
		if !ok || !sameDisk(e, synced(c.want)) {
			t.Errorf("%s: Crash tells %s, %v", c.name, brief(e), ok)
		}
	}
}

func TestCrashWithAllKeeps(t *testing.T) {
	for name, d := range rightDisks() {
		if len(d.Ops) > 7 {
			continue
		}
		for _, keep := range keeps(len(d.Ops)) {
			for _, torn := range []int64{-1, 0, 1, 2, 3, 4, 5, math.MaxInt64} {
				checkCrash(t, name, d, keep, torn)
			}
		}
	}
}

func TestCrashWithManyOps(t *testing.T) {
	for seed := range uint32(60) {
		c := chance{seed + 100}
		d := c.disk(10 + c.below(191))
		for range 20 {
			var keep []int64
			for at := range d.Ops {
				if c.below(3) > 0 {
					keep = append(keep, int64(at))
				}
			}
			checkCrash(t, fmt.Sprint("by chance ", seed), d, keep, int64(c.below(6)))
		}
		checkCrash(t, fmt.Sprint("all of ", seed), d, allOf(d), 9)
	}
}

func TestCrashRefuses(t *testing.T) {
	three := diskOf(files{"a": "1"}, appendOp("a", "xyz"), appendOp("b", "xyz"), removeOp("a"))
	for why, keep := range map[string][]int64{
		"twice":                  {1, 1},
		"twice at last":          {0, 2, 2},
		"falls":                  {1, 0},
		"falls at last":          {0, 2, 1},
		"below 0":                {-1},
		"below 0 at first":       {-1, 0, 1},
		"below 0 at last":        {1, -1},
		"as many as ops":         {3},
		"as many as ops at last": {0, 1, 2, 3},
		"far beyond":             {0, math.MaxInt64},
		"2 to the 32":            {1 << 32},
		"2 to the 63":            {math.MinInt64, 0},
		"many":                   make([]int64, 100000),
	} {
		for _, torn := range []int64{-1, 0, 3} {
			if e, ok := impl.Crash(three, keep, torn); ok || !sameDisk(e, impl.Disk{}) {
				t.Errorf("%s: Crash tells %s, %v", why, brief(e), ok)
			}
		}
	}
	for _, torn := range []int64{-1, -3, math.MinInt64, math.MinInt32} {
		for _, keep := range [][]int64{nil, {0}, {0, 1, 2}} {
			if e, ok := impl.Crash(three, keep, torn); ok || !sameDisk(e, impl.Disk{}) {
				t.Errorf("torn at %d: Crash tells %s, %v", torn, brief(e), ok)
			}
		}
	}
	for name, d := range map[string]impl.Disk{"no files": {}, "synced": synced(manyFiles(3, 3))} {
		if e, ok := impl.Crash(d, []int64{0}, 0); ok || !sameDisk(e, impl.Disk{}) {
			t.Errorf("%s: Crash tells %s, %v", name, brief(e), ok)
		}
	}
}

// Only what is there at the end has to fit.
func TestCrashAtTheLimitsOfDisks(t *testing.T) {
	big := func(n int) string { return strings.Repeat("x", n) }
	many := diskOf(manyFiles(60, 1), removeOp("f00"), appendOp("a", "x"), removeOp("f01"), appendOp("b", "x"), renameOp("a", "f02"))
	bytes := diskOf(files{"a": big(199990)}, removeOp("a"), appendOp("b", big(20)), appendOp("c", big(199980)), removeOp("c"), appendOp("b", "y"))
	for _, c := range []struct {
		name string
		d    impl.Disk
		keep []int64
		torn int64
		want bool
	}{
		{"61 files", many, []int64{1}, 9, false},
		{"61 files, torn at 0", many, []int64{1}, 0, false},
		{"62 files", many, []int64{1, 3}, 9, false},
		{"60 files", many, []int64{0, 1}, 9, true},
		{"61 files for a while, then a removal", many, []int64{1, 2}, 9, true},
		{"61 files for a while, then a rename", many, []int64{1, 4}, 9, true},
		{"62 files for a while", many, []int64{1, 2, 3, 4}, 9, true},
		{"62 files for a while, 61 at last", many, []int64{1, 3, 4}, 9, false},
		{"200010 bytes", bytes, []int64{1}, 20, false},
		{"200001 bytes", bytes, []int64{1}, 11, false},
		{"200000 bytes", bytes, []int64{1}, 10, true},
		{"199999 bytes", bytes, []int64{1}, 9, true},
		{"200010 bytes, as the last one is torn alone", bytes, []int64{1, 4}, 0, false},
		{"too many bytes for a while", bytes, []int64{2, 3}, 0, true},
		{"too many bytes for a while, and more at last", bytes, []int64{2, 3, 4}, 9, true},
		{"too many bytes at last", bytes, []int64{2}, 11, false},
		{"all of them", bytes, []int64{0, 1, 2, 3, 4}, 9, true},
	} {
		if ok := checkCrash(t, c.name, c.d, c.keep, c.torn); ok != c.want {
			t.Errorf("%s: Crash tells %v", c.name, ok)
		}
	}
	var ops []impl.DOp
	var appends []int64
	for range 100 {
		appends = append(appends, int64(len(ops)))
		ops = append(ops, appendOp("a", big(200000)), removeOp("a"))
	}
	long := diskOf(nil, ops...)
	checkCrash(t, "100 times 200000 bytes", long, appends, 9)
	checkCrash(t, "100 times 200000 bytes, and all of it gone", long, append(slices.Clone(appends), 199), 9)
}

// The answers are written down here.
func TestReplace(t *testing.T) {
	for _, c := range []struct {
		name string
		d    impl.Disk
		file string
		data string
		live files
		ops  []impl.DOp
	}{
		{"a new file", impl.Disk{}, "a", "x", files{"a": "x"}, []impl.DOp{appendOp("a.new", "x"), renameOp("a.new", "a")}},
		{"a file that is there", synced(files{"a": "1", "b": "2"}), "a", "x", files{"a": "x", "b": "2"}, []impl.DOp{appendOp("a.new", "x"), renameOp("a.new", "a")}},
		{"with nothing", synced(files{"a": "1"}), "a", "", files{"a": ""}, []impl.DOp{appendOp("a.new", ""), renameOp("a.new", "a")}},
		{"with the same", synced(files{"a": "1"}), "a", "1", files{"a": "1"}, []impl.DOp{appendOp("a.new", "1"), renameOp("a.new", "a")}},
		{"the other name is there", synced(files{"a": "1", "a.new": "2"}), "a", "x", files{"a": "x"}, []impl.DOp{removeOp("a.new"), appendOp("a.new", "x"), renameOp("a.new", "a")}},
		{"the other name is there alone", synced(files{"a.new": ""}), "a", "x", files{"a": "x"}, []impl.DOp{removeOp("a.new"), appendOp("a.new", "x"), renameOp("a.new", "a")}},
		{"the other name itself", synced(files{"a": "1", "a.new": "2"}), "a.new", "x", files{"a": "1", "a.new": "x"}, []impl.DOp{appendOp("a.new.new", "x"), renameOp("a.new.new", "a.new")}},
		{"with ops ahead", diskOf(files{"a": "1", "a.new": "2"}, removeOp("a.new")), "a", "x", files{"a": "x"}, []impl.DOp{removeOp("a.new"), appendOp("a.new", "x"), renameOp("a.new", "a")}},
		{"other names that look alike", synced(files{"a": "1", "anew": "2", ".new": "3", "b.new": "4"}), "a", "x", files{"a": "x", "anew": "2", ".new": "3", "b.new": "4"}, []impl.DOp{appendOp("a.new", "x"), renameOp("a.new", "a")}},
	} {
		want := impl.Disk{Live: filesOf(c.live), Safe: c.d.Safe, Ops: c.ops}
		if e, code := impl.Replace(c.d, c.file, c.data); code != impl.DkOk || !sameDisk(e, want) {
			t.Errorf("%s: Replace tells %s, %d", c.name, brief(e), code)
		}
	}
}

func TestReplaceOnAllDisks(t *testing.T) {
	for name, d := range rightDisks() {
		for _, file := range []string{"", "a", "b", "b.new", "log", "f00", "\x00", strings.Repeat("n", 95), strings.Repeat("n", 96), strings.Repeat("n", 97), strings.Repeat("n", 100)} {
			for _, data := range []string{"", "x", strings.Repeat("z", 200), strings.Repeat("z", 200001)} {
				checkReplace(t, name, d, file, data)
			}
		}
	}
}

// The codes are written down here.
func TestReplaceRefuses(t *testing.T) {
	big := func(n int) string { return strings.Repeat("x", n) }
	with := func(n int) impl.Disk { return diskOf(files{"a": "1", "b.new": "2"}, manyOps(n, "c")...) }
	less := manyFiles(59, 1)
	delete(less, "f00")
	less["f01.new"] = "x"
	for _, c := range []struct {
		name string
		d    impl.Disk
		file string
		data string
		code int64
	}{
		{"a name of 96 bytes", impl.Disk{}, big(96), "x", impl.DkOk},
		{"a name of 97 bytes", impl.Disk{}, big(97), "x", impl.DkForm},
		{"a name of 97 bytes that is there", synced(files{big(97): "1"}), big(97), "x", impl.DkForm},
		{"a name of 100 bytes", impl.Disk{}, big(100), "x", impl.DkForm},
		{"a name of 101 bytes", impl.Disk{}, big(101), "x", impl.DkForm},
		{"no name", synced(files{"a": "1"}), "", "x", impl.DkForm},
		{"no name, the other one is there", synced(files{".new": "1"}), "", "x", impl.DkForm},
		{"no name, full of ops", diskOf(nil, manyOps(200, "a")...), "", "x", impl.DkFull},
		{"no name, one op left", diskOf(nil, manyOps(199, "a")...), "", "x", impl.DkForm},
		{"a name of 97 bytes, full of ops", diskOf(nil, manyOps(200, "a")...), big(97), "x", impl.DkForm},
		{"198 ops", with(198), "a", "x", impl.DkOk},
		{"199 ops", with(199), "a", "x", impl.DkFull},
		{"200 ops", with(200), "a", "x", impl.DkFull},
		{"197 ops, the other name is there", with(197), "b", "x", impl.DkOk},
		{"198 ops, the other name is there", with(198), "b", "x", impl.DkFull},
		{"199 ops, the other name is there", with(199), "b", "x", impl.DkFull},
		{"200 ops, the other name is there", with(200), "b", "x", impl.DkFull},
		{"59 files", synced(manyFiles(59, 1)), "f00", "x", impl.DkOk},
		{"60 files", synced(manyFiles(60, 1)), "f00", "x", impl.DkFull},
		{"59 files, the other name among them", synced(less), "f01", "x", impl.DkOk},
		{"200000 bytes with both", synced(files{"a": big(100000)}), "a", big(100000), impl.DkOk},
		{"200001 bytes with both", synced(files{"a": big(100000)}), "a", big(100001), impl.DkFull},
		{"200000 bytes, and a new one", synced(files{"a": big(200000)}), "b", "x", impl.DkFull},
		{"200000 bytes, and with nothing", synced(files{"a": big(200000)}), "a", "", impl.DkOk},
		{"200000 bytes in the other name", synced(files{"a.new": big(200000)}), "a", big(200000), impl.DkOk},
		{"200001 bytes", impl.Disk{}, "a", big(200001), impl.DkFull},
	} {
		if code := checkReplace(t, c.name, c.d, c.file, c.data); code != c.code {
			t.Errorf("%s: Replace tells %d, not %d", c.name, code, c.code)
		}
	}
}

// What is promised, asked of the answers alone.
func TestDisksKeepTheirPromise(t *testing.T) {
	for name, d := range rightDisks() {
		if e, ok := impl.Crash(d, allOf(d), math.MaxInt64); !ok || !sameDisk(e, impl.Sync(d)) || !slices.Equal(e.Live, d.Live) {
			t.Errorf("%s: with all ops kept Crash leaves %s, %v", name, brief(e), ok)
		}
		if e, ok := impl.Crash(d, nil, math.MaxInt64); !ok || !slices.Equal(e.Live, d.Safe) || !slices.Equal(e.Safe, d.Safe) || len(e.Ops) != 0 {
			t.Errorf("%s: with no ops kept Crash leaves %s, %v", name, brief(e), ok)
		}
		c := chance{7}
		for range 30 {
			checkSeen(t, name, d, c.op())
		}
	}
}

// checkSeen asks that what is done is seen, and nothing else.
func checkSeen(t *testing.T, name string, d impl.Disk, op impl.DOp) {
	t.Helper()
	was, there := impl.ReadFile(d, op.Name)
	e, code := impl.Do(d, op)
	if code != impl.DkOk {
		if !sameDisk(e, d) {
			t.Errorf("%s: Do of %+v tells %d, and %s", name, op, code, brief(e))
		}
		return
	}
	now, is := impl.ReadFile(e, op.Name)
	seen := impl.DiskOk(e) && slices.Equal(e.Safe, d.Safe)
	switch {
	case op.Kind == impl.DkAppend:
		seen = seen && is && now == was+op.Data
	case op.Kind == impl.DkRename:
		moved, ok := impl.ReadFile(e, op.To)
		seen = seen && there && ok && moved == was && is == (op.To == op.Name)
	default:
		seen = seen && there && !is
	}
	for _, f := range d.Live {
		if data, ok := impl.ReadFile(e, f.Name); f.Name != op.Name && f.Name != op.To && (!ok || data != f.Data) {
			seen = false
		}
	}
	if !seen {
		t.Errorf("%s: Do of %+v is not seen: %s", name, op, brief(e))
	}
}

// The file is the old one or the new one, whatever is kept, and all others are
// as they were, but the other name.
func TestReplaceKeepsItsPromise(t *testing.T) {
	data := "the new one"
	for name, d := range rightDisks() {
		d = impl.Sync(d)
		for _, file := range []string{"a", "b", "log", "f00", "new", strings.Repeat("n", 96)} {
			old, had := impl.ReadFile(d, file)
			e, code := impl.Replace(d, file, data)
			if _, there := impl.ReadFile(d, file+".new"); there || code != impl.DkOk {
				continue
			}
			if len(e.Ops) != 2 {
				t.Errorf("%s: Replace of %q makes %+v", name, file, e.Ops)
			}
			news := 0
			for _, keep := range keeps(len(e.Ops)) {
				for torn := range int64(len(data) + 2) {
					left, ok := impl.Crash(e, keep, torn)
					now, has := impl.ReadFile(left, file)
					isOld, isNew := has == had && now == old, has && now == data
					if !ok || !isOld && !isNew {
						t.Errorf("%s: with %v and %d kept %q is %q, %v", name, keep, torn, file, now, has)
					}
					if isNew {
						news++
					}
					checkOthers(t, name, d, left, file)
				}
			}
			if news != len(data)+2 {
				t.Errorf("%s: %q is the new one %d times", name, file, news)
			}
		}
	}
}

func checkOthers(t *testing.T, name string, d, left impl.Disk, file string) {
	t.Helper()
	was, is := dataOf(d.Live), dataOf(left.Live)
	for _, each := range []string{file, file + ".new"} {
		delete(was, each)
		delete(is, each)
	}
	if !maps.Equal(was, is) {
		t.Errorf("%s: other files than %q are %q", name, file, is)
	}
}

func TestDiskCallsLeaveTheirArguments(t *testing.T) {
	disks := rightDisks()
	for why, d := range notRightDisks() {
		disks["not right: "+why] = d
	}
	for name, d := range disks {
		r := newRoomyDisk(d)
		impl.DiskOk(r.disk())
		for _, op := range []impl.DOp{appendOp("a", "x"), appendOp("log", ""), renameOp("a", "b"), renameOp("a", "a"), removeOp("a"), removeOp("none"), renameOp("f07", "f08"), {}} {
			e, _ := impl.Do(r.disk(), op)
			spoilDisk(t, name+": Do", e)
			r.check(t, name+": Do")
		}
		spoilDisk(t, name+": Sync", impl.Sync(r.disk()))
		r.check(t, name+": Sync")
		for _, places := range [][]int64{nil, {0}, {0, 1}, allOf(d), {1, 0}} {
			keep := newRoomy(places, 99)
			e, _ := impl.Crash(r.disk(), keep.list(), 1)
			spoilDisk(t, name+": Crash", e)
			r.check(t, name+": Crash")
			keep.check(t, name+": Crash")
		}
		for _, file := range []string{"a", "b", "log", "", strings.Repeat("n", 97)} {
			impl.ReadFile(r.disk(), file)
			e, _ := impl.Replace(r.disk(), file, "x")
			spoilDisk(t, name+": Replace", e)
			r.check(t, name+": Replace")
		}
	}
}

// Both lists of a disk may be one and the same, as an argument.
func TestDiskCallsTakeListsThatAreOne(t *testing.T) {
	for name, d := range map[string]impl.Disk{"few": synced(manyFiles(3, 2)), "60": synced(manyFiles(60, 2))} {
		one := impl.Disk{Live: d.Live, Safe: d.Live}
		e, code := impl.Do(one, appendOp("f00", "x"))
		if want, c := doneOn(d, appendOp("f00", "x")); code != c || !sameDisk(e, want) {
			t.Errorf("%s: Do tells %s, %d", name, brief(e), code)
		}
		spoilDisk(t, name+": Do", e)
		for _, op := range []impl.DOp{removeOp("none"), {}} {
			e, _ = impl.Do(one, op)
			spoilDisk(t, name+": Do", e)
		}
		e, _ = impl.Replace(one, "", "x")
		spoilDisk(t, name+": Replace", e)
		spoilDisk(t, name+": Sync", impl.Sync(one))
		if !sameDisk(one, d) {
			t.Errorf("%s: the lists became %s", name, brief(one))
		}
	}
}

func TestDiskCallsAnswerTheSameAgain(t *testing.T) {
	for name, d := range rightDisks() {
		if len(d.Ops) > 12 || len(d.Live) > 20 {
			continue
		}
		for range 3 {
			checkDo(t, name, d, appendOp("m", "x"))
			checkDo(t, name, d, renameOp("a", "z"))
			checkCrash(t, name, d, allOf(d), 1)
			checkReplace(t, name, d, "a", "x")
			e := impl.Sync(d)
			spoilDisk(t, name, e)
			e, _ = impl.Crash(d, allOf(d), 1)
			spoilDisk(t, name, e)
			e, _ = impl.Replace(d, "a", "x")
			spoilDisk(t, name, e)
		}
	}
}

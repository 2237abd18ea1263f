package tests

import (
	"fmt"
	"maps"
	"slices"
	"strings"
	"testing"

	"loop.example/g00652/impl"
)

// files has the Data of each file by its Name.
type files = map[string]string

// filesOf are the files, as they have to stand.
func filesOf(data files) []impl.File {
	var l []impl.File
	for _, name := range slices.Sorted(maps.Keys(data)) {
		l = append(l, impl.File{Name: name, Data: data[name]})
	}
	return l
}

func dataOf(l []impl.File) files {
	data := files{}
	for _, f := range l {
		data[f.Name] = f.Data
	}
	return data
}

func appendOp(name, data string) impl.DOp { return impl.DOp{Kind: 1, Name: name, Data: data} }

func renameOp(name, to string) impl.DOp { return impl.DOp{Kind: 2, Name: name, To: to} }

func removeOp(name string) impl.DOp { return impl.DOp{Kind: 3, Name: name} }

func nameFits(name string) bool { return name != "" && len(name) < 101 }

// formed tells whether an op has its form, as the document has it.
func formed(op impl.DOp) bool {
	switch op {
	case appendOp(op.Name, op.Data), removeOp(op.Name):
		return nameFits(op.Name)
	case renameOp(op.Name, op.To):
		return nameFits(op.Name) && nameFits(op.To)
	}
	return false
}

// opDone does an op as the document has it, and tells whether it found its file.
func opDone(data files, op impl.DOp) bool {
	was, there := data[op.Name]
	switch {
	case op.Kind == 1:
		data[op.Name] = was + op.Data
		return true
	case there && op.Kind == 2:
		delete(data, op.Name)
		data[op.To] = was
	case there:
		delete(data, op.Name)
	}
	return there
}

func filesFit(data files) bool {
	size := 0
	for name := range data {
		size += len(data[name])
		if !nameFits(name) {
			return false
		}
	}
	return len(data) <= 60 && size <= 200000
}

func diskRight(d impl.Disk) bool {
	for _, l := range [][]impl.File{d.Live, d.Safe} {
		if !slices.Equal(l, filesOf(dataOf(l))) || !filesFit(dataOf(l)) {
			return false
		}
	}
	data := dataOf(d.Safe)
	for _, op := range d.Ops {
		if !formed(op) || !opDone(data, op) || !filesFit(data) {
			return false
		}
	}
	return len(d.Ops) <= 200 && maps.Equal(data, dataOf(d.Live))
}

// doneOn is Do as the document has it.
func doneOn(d impl.Disk, op impl.DOp) (impl.Disk, int64) {
	if !diskRight(d) {
		return impl.Disk{}, 1
	}
	live := dataOf(d.Live)
	switch {
	case !formed(op):
		return d, 2
	case !opDone(live, op):
		return d, 3
	case len(d.Ops) == 200 || !filesFit(live):
		return d, 4
	}
	return impl.Disk{Live: filesOf(live), Safe: d.Safe, Ops: append(slices.Clone(d.Ops), op)}, 0
}

// left is Crash as the document has it.
func left(d impl.Disk, keep []int64, torn int64) (impl.Disk, bool) {
	for i, at := range keep {
		if at < 0 || at >= int64(len(d.Ops)) || i > 0 && at <= keep[i-1] {
			return impl.Disk{}, false
		}
	}
	data := dataOf(d.Safe)
	for i, at := range keep {
		op := d.Ops[at]
		if i+1 == len(keep) && op.Kind == 1 && torn >= 0 && int64(len(op.Data)) > torn {
			op.Data = op.Data[:torn]
		}
		opDone(data, op)
	}
	if !diskRight(d) || torn < 0 || !filesFit(data) {
		return impl.Disk{}, false
	}
	return synced(data), true
}

func synced(data files) impl.Disk {
	return impl.Disk{Live: filesOf(data), Safe: filesOf(data)}
}

// diskOf has the files that were synced, and these ops done since.
func diskOf(safe files, ops ...impl.DOp) impl.Disk {
	live := maps.Clone(safe)
	if live == nil {
		live = files{}
	}
	for _, op := range ops {
		opDone(live, op)
	}
	return impl.Disk{Live: filesOf(live), Safe: filesOf(safe), Ops: ops}
}

// manyFiles are n files of so many bytes each.
func manyFiles(n, size int) files {
	data := files{}
	for i := range n {
		data[fmt.Sprintf("f%02d", i)] = strings.Repeat(fmt.Sprint(i%10), size)
	}
	return data
}

// manyOps are n appends of one byte to a file.
func manyOps(n int, name string) []impl.DOp {
	return slices.Repeat([]impl.DOp{appendOp(name, "x")}, n)
}

func sameDisk(a, b impl.Disk) bool {
	return slices.Equal(a.Live, b.Live) && slices.Equal(a.Safe, b.Safe) && slices.Equal(a.Ops, b.Ops)
}

// brief is a disk as a message has room for it.
func brief(d impl.Disk) string {
	return fmt.Sprintf("{Live %.300q Safe %.300q Ops %.300q}", fmt.Sprint(d.Live), fmt.Sprint(d.Safe), fmt.Sprint(d.Ops))
}

// chance gives numbers that are always the same.
type chance struct{ last uint32 }

func (c *chance) below(n int) int {
	c.last = c.last*1664525 + 1013904223
	return int(c.last>>8) % n
}

// op is one that may find no file, but has its form.
func (c *chance) op() impl.DOp {
	names := []string{"a", "b", "b.new", "c", "log", "log.new", "\x00", strings.Repeat("n", 100)}
	name, other := names[c.below(len(names))], names[c.below(len(names))]
	switch c.below(6) {
	case 0, 1:
		return renameOp(name, other)
	case 2:
		return removeOp(name)
	}
	return appendOp(name, strings.Repeat(fmt.Sprint(c.below(10)), c.below(5)))
}

// disk has n ops, each of which found its file.
func (c *chance) disk(n int) impl.Disk {
	safe := files{}
	for range c.below(20) {
		opDone(safe, c.op())
	}
	live := maps.Clone(safe)
	var ops []impl.DOp
	for len(ops) < n {
		if op := c.op(); opDone(live, op) {
			ops = append(ops, op)
		}
	}
	return diskOf(safe, ops...)
}

// keeps are all choices among n ops; of many ops, among the first ones.
func keeps(n int) [][]int64 {
	out := [][]int64{nil}
	for at := range min(n, 8) {
		for _, keep := range slices.Clone(out) {
			out = append(out, append(slices.Clone(keep), int64(at)))
		}
	}
	return out
}

// allOf are the places of all ops.
func allOf(d impl.Disk) []int64 {
	var out []int64
	for at := range d.Ops {
		out = append(out, int64(at))
	}
	return out
}

// rightDisks are at the limits, or by chance that is always the same.
func rightDisks() map[string]impl.Disk {
	long := strings.Repeat("n", 100)
	out := map[string]impl.Disk{
		"no files":                    {},
		"empty lists":                 {Live: []impl.File{}, Safe: []impl.File{}, Ops: []impl.DOp{}},
		"one file":                    synced(files{"a": "1"}),
		"an empty file":               synced(files{"a": ""}),
		"names of 1 and of 100 bytes": synced(files{"a": "1", long: "2", "\x00": "", "\xff": "3"}),
		"60 files":                    synced(manyFiles(60, 3)),
		"60 files, one just made":     diskOf(manyFiles(59, 3), appendOp("a", "")),
		"200000 bytes":                synced(files{"a": strings.Repeat("x", 200000)}),
		"200000 bytes in 50 files":    synced(manyFiles(50, 4000)),
		"200000 bytes, the last new":  diskOf(manyFiles(50, 3999), appendOp("a", strings.Repeat("x", 49)), appendOp("f00", "z")),
		"200 ops":                     diskOf(files{"a": "1"}, manyOps(200, "b")...),
		"199 ops":                     diskOf(files{"a": "1"}, manyOps(199, "a")...),
		"an append of nothing":        diskOf(nil, appendOp("a", "")),
		"a rename":                    diskOf(files{"a": "1"}, renameOp("a", "b")),
		"a rename to a long name":     diskOf(files{"a": "1"}, renameOp("a", long), renameOp(long, "b")),
		"a rename onto another one":   diskOf(files{"a": "1", "b": "2"}, renameOp("a", "b")),
		"a rename onto itself":        diskOf(files{"a": "1"}, renameOp("a", "a")),
		"a removal":                   diskOf(files{"a": "1"}, removeOp("a")),
		"nothing in the end":          diskOf(files{"a": "1"}, appendOp("b", "2"), removeOp("b")),
		"as it was in the end":        diskOf(files{"a": "1"}, renameOp("a", "b"), renameOp("b", "a")),
		"made anew":                   diskOf(files{"a": "1"}, removeOp("a"), appendOp("a", "1")),
		"full, and made room":         diskOf(manyFiles(60, 3333), removeOp("f07"), appendOp("a", "1"), renameOp("a", "f08")),
	}
	for seed := range uint32(40) {
		c := chance{seed}
		out[fmt.Sprint("by chance ", seed)] = c.disk(int(seed) % 12)
	}
	return out
}

// notRightDisks are not right, each for one reason, with the file log among
// them where that can be.
func notRightDisks() map[string]impl.Disk {
	log := impl.File{Name: "log"}
	long := strings.Repeat("n", 101)
	both := func(l ...impl.File) impl.Disk { return impl.Disk{Live: l, Safe: slices.Clone(l)} }
	with := func(ops ...impl.DOp) impl.Disk { return diskOf(files{"log": "", "z": "1"}, ops...) }
	like := func(ops ...impl.DOp) impl.Disk {
		d := synced(files{"log": "", "z": "1"})
		d.Ops = ops
		return d
	}
	one := synced(files{"log": ""})
	return map[string]impl.Disk{
		"names fall":                      both(log, impl.File{Name: "a"}),
		"names fall at last":              both(impl.File{Name: "a"}, log, impl.File{Name: "b"}),
		"one name twice":                  both(log, log),
		"one name twice, other data":      both(log, impl.File{Name: "log", Data: "x"}),
		"name of 0 bytes":                 both(impl.File{Data: "x"}, log),
		"name of 101 bytes":               both(log, impl.File{Name: long}),
		"61 files":                        synced(manyFiles(61, 1)),
		"many files":                      both(make([]impl.File, 100000)...),
		"200001 bytes":                    both(log, impl.File{Name: "z", Data: strings.Repeat("x", 200001)}),
		"200001 bytes in three files":     both(impl.File{Name: "a", Data: strings.Repeat("x", 100000)}, impl.File{Name: "b", Data: strings.Repeat("x", 100000)}, impl.File{Name: "log", Data: "x"}),
		"files that are seen alone fall":  {Live: []impl.File{log, {Name: "a"}}, Safe: filesOf(files{"a": "", "log": ""})},
		"files that are safe alone fall":  {Live: filesOf(files{"a": "", "log": ""}), Safe: []impl.File{log, {Name: "a"}}},
		"seen, not safe":                  {Live: one.Live},
		"safe, not seen":                  {Safe: one.Safe},
		"one more seen":                   {Live: filesOf(files{"log": "", "m": ""}), Safe: one.Safe},
		"one more safe":                   {Live: one.Live, Safe: filesOf(files{"log": "", "m": ""})},
		"another name":                    {Live: one.Live, Safe: filesOf(files{"lot": ""})},
		"other data":                      {Live: one.Live, Safe: filesOf(files{"log": "x"})},
		"data that begins alike":          {Live: filesOf(files{"log": "xy"}), Safe: filesOf(files{"log": "x"})},
		"an append that is not seen":      like(appendOp("log", "x")),
		"an append of nothing, not seen":  like(appendOp("a", "")),
		"a rename that is not seen":       like(renameOp("z", "y")),
		"a removal that is not seen":      like(removeOp("z")),
		"an append that is seen double":   {Live: filesOf(files{"log": "xx"}), Safe: one.Safe, Ops: []impl.DOp{appendOp("log", "x")}},
		"an append that is safe already":  {Live: filesOf(files{"log": "x"}), Safe: filesOf(files{"log": "x"}), Ops: []impl.DOp{appendOp("log", "x")}},
		"two appends in the other order":  {Live: filesOf(files{"log": "yx"}), Safe: one.Safe, Ops: []impl.DOp{appendOp("log", "x"), appendOp("log", "y")}},
		"a rename that is seen as a copy": {Live: filesOf(files{"log": "", "y": "1", "z": "1"}), Safe: like().Safe, Ops: []impl.DOp{renameOp("z", "y")}},
		"a rename of none":                with(renameOp("x", "y")),
		"a rename of none onto itself":    with(renameOp("x", "x")),
		"a rename of one that is gone":    with(renameOp("z", "y"), renameOp("z", "x")),
		"a removal of none":               with(removeOp("x")),
		"a removal of one that is gone":   with(removeOp("z"), removeOp("z")),
		"a removal ahead of its append":   with(removeOp("x"), appendOp("x", "")),
		"an op of no Kind":                like(impl.DOp{Name: "z"}),
		"an op of Kind 4":                 like(impl.DOp{Kind: 4, Name: "z"}),
		"an op of Kind -1":                like(impl.DOp{Kind: -1, Name: "z"}),
		"an op of Kind 1 and 2 to the 32": like(impl.DOp{Kind: 1 + 1<<32, Name: "z"}),
		"the zero value among ops":        like(impl.DOp{}),
		"an append to no name":            with(appendOp("", "x")),
		"an append of nothing to no name": like(appendOp("", "")),
		"an append to 101 bytes":          with(appendOp(long, "x")),
		"a name of 101 bytes for a while": with(appendOp(long, "x"), removeOp(long)),
		"an append with To":               with(impl.DOp{Kind: 1, Name: "z", To: "y", Data: "x"}),
		"an append with To, of nothing":   with(impl.DOp{Kind: 1, Name: "z", To: "z"}),
		"a rename to no name":             with(renameOp("z", "")),
		"a rename to 101 bytes":           with(renameOp("z", long)),
		"101 bytes for a while":           with(renameOp("z", long), renameOp(long, "z")),
		"a rename with Data":              with(impl.DOp{Kind: 2, Name: "z", To: "y", Data: "x"}),
		"a rename onto itself with Data":  with(impl.DOp{Kind: 2, Name: "z", To: "z", Data: "1"}),
		"a removal with To":               with(impl.DOp{Kind: 3, Name: "z", To: "z"}),
		"a removal with Data":             with(impl.DOp{Kind: 3, Name: "z", Data: "1"}),
		"201 ops":                         with(manyOps(201, "log")...),
		"201 ops that do nothing":         like(slices.Repeat([]impl.DOp{renameOp("z", "z")}, 201)...),
		"many ops":                        like(make([]impl.DOp, 100000)...),
		"61 files for a while":            diskOf(manyFiles(60, 1), appendOp("log", ""), removeOp("log")),
		"61 files for a while, a rename":  diskOf(manyFiles(60, 1), appendOp("log", ""), renameOp("log", "f00")),
		"61 files seen":                   diskOf(manyFiles(60, 1), appendOp("log", "")),
		"200001 bytes for a while":        diskOf(manyFiles(50, 4000), appendOp("log", "x"), removeOp("log")),
		"200001 bytes seen":               diskOf(manyFiles(50, 4000), appendOp("log", "x")),
		"61 files safe":                   diskOf(manyFiles(61, 1), removeOp("f00")),
		"200001 bytes safe":               diskOf(files{"log": "", "z": strings.Repeat("x", 200001)}, removeOp("z")),
	}
}

// TestDisksOfTheTests asks that the lists above are what they say.
func TestDisksOfTheTests(t *testing.T) {
	for name, d := range rightDisks() {
		if !diskRight(d) {
			t.Errorf("%s: it is not right", name)
		}
	}
	for why, d := range notRightDisks() {
		if diskRight(d) {
			t.Errorf("%s: it is right", why)
		}
	}
}

// roomyDisk holds a disk that has used rows in the spare room of each list.
type roomyDisk struct {
	live roomy[impl.File]
	safe roomy[impl.File]
	ops  roomy[impl.DOp]
}

var (
	spareFile = impl.File{Name: "spare", Data: "room"}
	spareOp   = impl.DOp{Kind: 1, Name: "spare", Data: "room"}
)

func newRoomyDisk(d impl.Disk) roomyDisk {
	return roomyDisk{live: newRoomy(d.Live, spareFile), safe: newRoomy(d.Safe, spareFile), ops: newRoomy(d.Ops, spareOp)}
}

func (r roomyDisk) disk() impl.Disk {
	return impl.Disk{Live: r.live.list(), Safe: r.safe.list(), Ops: r.ops.list()}
}

func (r roomyDisk) check(t *testing.T, call string) {
	t.Helper()
	r.live.check(t, call)
	r.safe.check(t, call)
	r.ops.check(t, call)
}

// spoilDisk writes over the lists of an answer, of which no two may share memory:
// what is written last would be seen in the other one.
func spoilDisk(t *testing.T, call string, d impl.Disk) {
	t.Helper()
	spoil(d.Live, spareFile)
	spoil(d.Safe, impl.File{Name: "other", Data: "room"})
	spoil(d.Ops, spareOp)
	for _, f := range d.Live[:cap(d.Live)] {
		if f != spareFile {
			t.Errorf("%s: two lists of one answer share memory", call)
			return
		}
	}
}

package tests

import (
	"fmt"
	"maps"
	"slices"
	"strings"
	"testing"

	"loop.example/g00675/impl"
)

const (
	diskFiles   = 60
	diskBytes   = 200000
	diskOps     = 200
	longestName = 100
)

func TestDiskNumbers(t *testing.T) {
	wantNumber(t, "MaxFiles", impl.MaxFiles, diskFiles)
	wantNumber(t, "MaxBytes", impl.MaxBytes, diskBytes)
	wantNumber(t, "MaxOps", impl.MaxOps, diskOps)
	for i, kind := range []int64{impl.DkAppend, impl.DkRename, impl.DkRemove} {
		wantNumber(t, "a kind of ops", kind, int64(i+1))
	}
	for want, code := range []int64{impl.DkOk, impl.DkDisk, impl.DkForm, impl.DkNone, impl.DkFull} {
		wantNumber(t, "a code of disks", code, int64(want))
	}
}

func appendOp(name string, data string) impl.DOp {
	return impl.DOp{Kind: impl.DkAppend, Name: name, Data: data}
}

func renameOp(name string, to string) impl.DOp {
	return impl.DOp{Kind: impl.DkRename, Name: name, To: to}
}

func removeOp(name string) impl.DOp {
	return impl.DOp{Kind: impl.DkRemove, Name: name}
}

func sameDisk(a impl.Disk, b impl.Disk) bool {
	return slices.Equal(a.Live, b.Live) && slices.Equal(a.Safe, b.Safe) && slices.Equal(a.Ops, b.Ops)
}

// plainFiles are the Data of files by their Names.
type plainFiles map[string]string

func plainOf(l []impl.File) plainFiles {
	p := plainFiles{}
	for _, f := range l {
		p[f.Name] = f.Data
	}
	return p
}

func (p plainFiles) list() []impl.File {
	var out []impl.File
	for _, name := range slices.Sorted(maps.Keys(p)) {
		out = append(out, impl.File{Name: name, Data: p[name]})
	}
	return out
}

func (p plainFiles) fit() bool {
	size := 0
	for _, data := range p {
		size += len(data)
	}
	return len(p) <= diskFiles && size <= diskBytes
}

// with gives the files with an op done; the same, where it finds no file.
func (p plainFiles) with(op impl.DOp) plainFiles {
	out := maps.Clone(p)
	data, there := p[op.Name]
	switch {
	case op.Kind == impl.DkAppend:
		out[op.Name] = data + op.Data
	case op.Kind == impl.DkRename && there:
		delete(out, op.Name)
		out[op.To] = data
	case op.Kind == impl.DkRemove:
		delete(out, op.Name)
	}
	return out
}

// plainDo does an op on a disk that is right.
func plainDo(d impl.Disk, op impl.DOp) (impl.Disk, int64) {
	named := func(s string) bool { return len(s) > 0 && len(s) <= longestName }
	formed := named(op.Name)
	switch op.Kind {
	case impl.DkAppend:
		formed = formed && op.To == ""
	case impl.DkRename:
		formed = formed && named(op.To) && op.Data == ""
	case impl.DkRemove:
		formed = formed && op.To+op.Data == ""
	default:
		formed = false
	}
	if !formed {
		return d, impl.DkForm
	}
	files := plainOf(d.Live)
	if _, there := files[op.Name]; !there && op.Kind != impl.DkAppend {
		return d, impl.DkNone
	}
	after := files.with(op)
	if len(d.Ops) == diskOps || !after.fit() {
		return d, impl.DkFull
	}
	return impl.Disk{Live: after.list(), Safe: d.Safe, Ops: append(slices.Clip(d.Ops), op)}, impl.DkOk
}

// diskOf gives a disk with these files safe, and these ops done since.
func diskOf(t *testing.T, safe []impl.File, ops ...impl.DOp) impl.Disk {
	t.Helper()
	d := impl.Disk{Live: safe, Safe: safe}
	for _, op := range ops {
		var code int64
		if d, code = plainDo(d, op); code != impl.DkOk {
			t.Fatalf("%s is no op of the test's disk: %d", brief(op), code)
		}
	}
	return d
}

func wantDisk(t *testing.T, what string, d impl.Disk) {
	t.Helper()
	if !impl.DiskOk(d) {
		t.Errorf("%s: not right: %s", what, brief(d))
	}
}

// wantNoDisk asks every function of disks for its answer to one that is not right.
func wantNoDisk(t *testing.T, what string, d impl.Disk) {
	t.Helper()
	if impl.DiskOk(d) {
		t.Errorf("%s: right: %s", what, brief(d))
	}
	for _, op := range []impl.DOp{appendOp("a", "x"), removeOp("a"), removeOp("none"), {}, appendOp("big", noughts(diskBytes+1))} {
		if e, code := impl.Do(d, op); code != impl.DkDisk || !sameDisk(e, impl.Disk{}) {
			t.Errorf("%s: Do answers %s, %d", what, brief(e), code)
		}
	}
	if e := impl.Sync(d); !sameDisk(e, impl.Disk{}) {
		t.Errorf("%s: Sync answers %s", what, brief(e))
	}
	wantNoCrash(t, what, d, nil, 0)
	wantNoCrash(t, what, d, []int64{-1}, -1)
	for _, name := range []string{"a", "log", ""} {
		wantNoFile(t, what, d, name)
		if e, code := impl.Replace(d, name, "x"); code != impl.DkDisk || !sameDisk(e, impl.Disk{}) {
			t.Errorf("%s: Replace answers %s, %d", what, brief(e), code)
		}
	}
}

func wantNoCrash(t *testing.T, what string, d impl.Disk, keep []int64, torn int64) {
	t.Helper()
	if e, ok := impl.Crash(d, keep, torn); ok || !sameDisk(e, impl.Disk{}) {
		t.Errorf("%s: Crash with %v, %d answers %s, %v", what, keep, torn, brief(e), ok)
	}
}

func wantCrash(t *testing.T, what string, d impl.Disk, keep []int64, torn int64, want []impl.File) {
	t.Helper()
	e, ok := impl.Crash(d, keep, torn)
	if !ok || !sameDisk(e, impl.Disk{Live: want, Safe: want}) {
		t.Errorf("%s: Crash with %v, %d answers %s, %v, want %s", what, keep, torn, brief(e), ok, brief(want))
	}
	wantDisk(t, what, e)
}

func wantNoFile(t *testing.T, what string, d impl.Disk, name string) {
	t.Helper()
	if s, ok := impl.ReadFile(d, name); ok || s != "" {
		t.Errorf("%s: the file %.20q is read: %s, %v", what, name, brief(s), ok)
	}
}

func wantDo(t *testing.T, d impl.Disk, op impl.DOp, want impl.Disk) impl.Disk {
	t.Helper()
	e, code := impl.Do(d, op)
	if code != impl.DkOk || !sameDisk(e, want) {
		t.Errorf("%s answers %d, %s, want %s", brief(op), code, brief(e), brief(want))
	}
	wantDisk(t, brief(op), e)
	return e
}

func wantNotDone(t *testing.T, what string, d impl.Disk, op impl.DOp, want int64) {
	t.Helper()
	e, code := impl.Do(d, op)
	if code != want || !sameDisk(e, d) {
		t.Errorf("%s: %s answers %d, want %d, %s", what, brief(op), code, want, brief(e))
	}
}

// filesNamed gives so many files of no bytes, whose names rise.
func filesNamed(many int) []impl.File {
	var out []impl.File
	for i := range many {
		out = append(out, impl.File{Name: fmt.Sprintf("f%02d", i)})
	}
	return out
}

func goodFiles() [][]impl.File {
	long := strings.Repeat("n", longestName)
	full := filesNamed(diskFiles)
	full[7].Data = noughts(diskBytes - 1)
	full[59].Data = "x"
	return [][]impl.File{
		nil, {}, {{Name: "a"}}, {{Name: "a", Data: "x"}}, {{Name: long}}, {{Name: long[1:]}}, {{Name: "\x00"}}, {{Name: "\xff\n"}},
		{{Name: "a"}, {Name: "a\x00"}, {Name: "aa"}, {Name: "b"}}, {{Name: "B"}, {Name: "a"}}, {{Name: "10"}, {Name: "9"}}, {{Name: "\x7f"}, {Name: "\x80"}, {Name: "\xff"}},
		{{Name: long[1:]}, {Name: long}}, filesNamed(diskFiles - 1), filesNamed(diskFiles), full,
		{{Name: "a", Data: noughts(diskBytes)}}, {{Name: "a", Data: noughts(diskBytes - 1)}}, {{Name: "a", Data: noughts(diskBytes / 2)}, {Name: "b", Data: noughts(diskBytes / 2)}},
	}
}

func badFiles() [][]impl.File {
	long := strings.Repeat("n", longestName+1)
	over := filesNamed(diskFiles)
	over[0].Data, over[59].Data = noughts(diskBytes), "x"
	return [][]impl.File{
		{{}}, {{Data: "x"}}, {{}, {Name: "a"}}, {{Name: long}}, {{Name: long + long}}, {{Name: "a"}, {Name: long}},
		{{Name: "a"}, {Name: "a"}}, {{Name: "a", Data: "x"}, {Name: "a", Data: "y"}}, {{Name: "a"}, {Name: "b"}, {Name: "b"}}, {{Name: "a"}, {Name: "a"}, {Name: "b"}},
		{{Name: "b"}, {Name: "a"}}, {{Name: "a"}, {Name: "c"}, {Name: "b"}}, {{Name: "aa"}, {Name: "a"}}, {{Name: "\x80"}, {Name: "\x7f"}}, {{Name: "a"}, {Name: "B"}},
		filesNamed(diskFiles + 1), filesNamed(1000), over,
		{{Name: "a", Data: noughts(diskBytes + 1)}}, {{Name: "a", Data: noughts(diskBytes)}, {Name: "b", Data: "x"}}, {{Name: "a", Data: "x"}, {Name: "b", Data: noughts(diskBytes)}},
	}
}

func TestFilesOfADisk(t *testing.T) {
	for i, l := range goodFiles() {
		d := impl.Disk{Live: l, Safe: l}
		wantDisk(t, fmt.Sprint("good files ", i), d)
		for _, f := range l {
			if s, ok := impl.ReadFile(d, f.Name); !ok || s != f.Data {
				t.Errorf("good files %d: %.20q is %s, %v", i, f.Name, brief(s), ok)
			}
		}
		if e := impl.Sync(d); !sameDisk(e, d) {
			t.Errorf("good files %d: Sync answers %s", i, brief(e))
		}
	}
	for i, l := range badFiles() {
		what := fmt.Sprint("bad files ", i)
		wantNoDisk(t, what, impl.Disk{Live: l, Safe: l})
		wantNoDisk(t, what+" of Live", impl.Disk{Live: l})
		wantNoDisk(t, what+" of Safe", impl.Disk{Safe: l})
		// Even when all of them are gone since.
		d := impl.Disk{Safe: l}
		for _, f := range l {
			d.Ops = append(d.Ops, removeOp(f.Name))
		}
		wantNoDisk(t, what+" that are gone", d)
	}
}

// plainDisk has ops of each kind.
func plainDisk(t *testing.T) impl.Disk {
	t.Helper()
	safe := []impl.File{{Name: "a", Data: "1"}, {Name: "b", Data: "22"}, {Name: "c", Data: "333"}}
	return diskOf(t, safe, appendOp("a", "4"), appendOp("d", "5"), renameOp("b", "e"), removeOp("c"), renameOp("d", "a"), appendOp("f", ""))
}

func TestOpsOfADisk(t *testing.T) {
	d := plainDisk(t)
	if !slices.Equal(d.Live, []impl.File{{Name: "a", Data: "5"}, {Name: "e", Data: "22"}, {Name: "f"}}) {
		t.Fatal(d)
	}
	wantDisk(t, "ops of each kind", d)
	change := func(what string, change func(d *impl.Disk)) {
		t.Helper()
		e := impl.Disk{Live: slices.Clone(d.Live), Safe: slices.Clone(d.Safe), Ops: slices.Clone(d.Ops)}
		change(&e)
		wantNoDisk(t, what, e)
	}
	change("another byte", func(e *impl.Disk) { e.Live[0].Data = "4" })
	change("another name", func(e *impl.Disk) { e.Live[1].Name = "ee" })
	change("a file less", func(e *impl.Disk) { e.Live = e.Live[:2] })
	change("a file more", func(e *impl.Disk) { e.Live = append(e.Live, impl.File{Name: "g"}) })
	change("no file", func(e *impl.Disk) { e.Live = nil })
	change("what is safe as Live", func(e *impl.Disk) { e.Live = slices.Clone(e.Safe) })
	change("a byte more is safe", func(e *impl.Disk) { e.Safe[1].Data += "2" })
	change("a file less is safe", func(e *impl.Disk) { e.Safe = e.Safe[:2] })
	change("none is safe", func(e *impl.Disk) { e.Safe = nil })
	change("no ops", func(e *impl.Disk) { e.Ops = nil })
	for i := 1; i < len(d.Ops); i++ {
		change(fmt.Sprint("without op ", i), func(e *impl.Disk) { e.Ops = slices.Delete(e.Ops, i, i+1) })
	}
	for _, i := range []int{2, 3, 4} {
		// These don't find their file a second time.
		change(fmt.Sprint("twice op ", i), func(e *impl.Disk) { e.Ops = slices.Insert(e.Ops, i, e.Ops[i]) })
	}
	change("a rename ahead of its file", func(e *impl.Disk) { e.Ops[1], e.Ops[4] = e.Ops[4], e.Ops[1] })
}

// Ops that change nothing, so that nothing but their form or that they find no file can be wrong.
func TestOpsThatMayNotBeOfADisk(t *testing.T) {
	d := impl.Disk{Live: []impl.File{{Name: "a"}}, Safe: []impl.File{{Name: "a"}}}
	with := func(ops ...impl.DOp) impl.Disk {
		d.Ops = ops
		return d
	}
	for _, op := range []impl.DOp{appendOp("a", ""), renameOp("a", "a")} {
		wantDisk(t, brief(op), with(op))
		wantDisk(t, brief(op)+" twice", with(op, op))
	}
	for _, op := range append(badOps(), removeOp("none"), renameOp("none", "a"), renameOp("none", "none")) {
		wantNoDisk(t, brief(op), with(op))
		wantNoDisk(t, brief(op)+" behind another one", with(appendOp("a", ""), op))
	}
	wantDisk(t, "gone and come", with(removeOp("a"), appendOp("a", "")))
	wantNoDisk(t, "gone twice", with(removeOp("a"), removeOp("a"), appendOp("a", "")))
}

// Too many files or bytes between, and not at the end.
func TestTooMuchBetween(t *testing.T) {
	full := filesNamed(diskFiles)
	wantNoDisk(t, "a file more between", impl.Disk{Live: full, Safe: full, Ops: []impl.DOp{appendOp("x", ""), removeOp("x")}})
	wantDisk(t, "a file less between", impl.Disk{Live: full, Safe: full, Ops: []impl.DOp{removeOp("f07"), appendOp("f07", "")}})
	for _, size := range []int{diskBytes, diskBytes + 1, diskBytes + 2} {
		d := impl.Disk{Ops: []impl.DOp{appendOp("x", noughts(size-10)), appendOp("y", noughts(10)), removeOp("x"), removeOp("y")}}
		if size > diskBytes {
			wantNoDisk(t, fmt.Sprint(size, " bytes between"), d)
			continue
		}
		wantDisk(t, fmt.Sprint(size, " bytes between"), d)
	}
}

// badOps have a Kind, names, To or Data that may not be.
func badOps() []impl.DOp {
	long := strings.Repeat("n", longestName+1)
	list := []impl.DOp{
		{}, {Name: "a"}, {Name: "a", Data: "x"}, appendOp("", ""), appendOp("", "x"), appendOp(long, ""), appendOp(long+long, "x"),
		{Kind: impl.DkAppend, Name: "a", To: "a"}, {Kind: impl.DkAppend, Name: "a", To: "b", Data: "x"}, {Kind: impl.DkAppend, Name: "a", To: long},
		renameOp("", ""), renameOp("a", ""), renameOp("", "a"), renameOp("a", long), renameOp(long, "a"),
		{Kind: impl.DkRename, Name: "a", To: "a", Data: "x"}, {Kind: impl.DkRename, Name: "a", To: "b", Data: "\x00"},
		removeOp(""), removeOp(long), {Kind: impl.DkRemove, Name: "a", To: "a"}, {Kind: impl.DkRemove, Name: "a", To: "b"}, {Kind: impl.DkRemove, Name: "a", Data: "x"}, {Kind: impl.DkRemove, Name: "none", Data: "x"},
	}
	for _, kind := range append([]int64{0, 4, 5, 257, 258, 259}, outsiders...) {
		list = append(list, impl.DOp{Kind: kind, Name: "a"}, impl.DOp{Kind: kind, Name: "a", Data: "x"}, impl.DOp{Kind: kind, Name: "a", To: "a"})
	}
	return list
}

func TestDo(t *testing.T) {
	long := strings.Repeat("n", longestName)
	a, b := impl.File{Name: "a", Data: "1"}, impl.File{Name: "b", Data: "22"}
	safe := []impl.File{a, b}
	for _, c := range []struct {
		op   impl.DOp
		live []impl.File
	}{
		{appendOp("a", "xy"), []impl.File{{Name: "a", Data: "1xy"}, b}},
		{appendOp("b", "\x00"), []impl.File{a, {Name: "b", Data: "22\x00"}}},
		{appendOp("a", ""), safe},
		{appendOp("aa", "xy"), []impl.File{a, {Name: "aa", Data: "xy"}, b}},
		{appendOp("c", ""), []impl.File{a, b, {Name: "c"}}},
		{appendOp("B", "x"), []impl.File{{Name: "B", Data: "x"}, a, b}},
		{appendOp(long, "x"), []impl.File{a, b, {Name: long, Data: "x"}}},
		{renameOp("a", "c"), []impl.File{b, {Name: "c", Data: "1"}}},
		{renameOp("b", "A"), []impl.File{{Name: "A", Data: "22"}, a}},
		{renameOp("a", long), []impl.File{b, {Name: long, Data: "1"}}},
		{renameOp("a", "b"), []impl.File{{Name: "b", Data: "1"}}},
		{renameOp("b", "a"), []impl.File{{Name: "a", Data: "22"}}},
		{renameOp("a", "a"), safe},
		{renameOp("b", "b"), safe},
		{removeOp("a"), []impl.File{b}},
		{removeOp("b"), []impl.File{a}},
	} {
		d := wantDo(t, impl.Disk{Live: safe, Safe: safe}, c.op, impl.Disk{Live: c.live, Safe: safe, Ops: []impl.DOp{c.op}})
		more := appendOp("z", "last")
		wantDo(t, d, more, impl.Disk{Live: append(slices.Clip(c.live), impl.File{Name: "z", Data: "last"}), Safe: safe, Ops: []impl.DOp{c.op, more}})
		if e := impl.Sync(d); !sameDisk(e, impl.Disk{Live: c.live, Safe: c.live}) {
			t.Errorf("behind %s Sync answers %s", brief(c.op), brief(e))
		}
	}
	wantDo(t, impl.Disk{}, appendOp("a", "1"), impl.Disk{Live: []impl.File{a}, Ops: []impl.DOp{appendOp("a", "1")}})
}

func TestOpsThatAreRefused(t *testing.T) {
	long := strings.Repeat("n", longestName)
	d := plainDisk(t)
	for _, op := range badOps() {
		wantNotDone(t, "an op of no form", d, op, impl.DkForm)
		wantNotDone(t, "an op of no form, on no files", impl.Disk{}, op, impl.DkForm)
	}
	for _, name := range []string{"b", "c", "d", "aa", "A", long} {
		wantNotDone(t, "no such file", d, removeOp(name), impl.DkNone)
		wantNotDone(t, "no such file", d, renameOp(name, "x"), impl.DkNone)
		wantNotDone(t, "no such file", d, renameOp(name, name), impl.DkNone)
		wantNotDone(t, "no such file", d, renameOp(name, "a"), impl.DkNone)
	}
	wantNotDone(t, "no files", impl.Disk{}, removeOp("a"), impl.DkNone)
}

// opsUpTo gives so many ops, each of which puts a byte behind one file.
func opsUpTo(many int) []impl.DOp {
	return slices.Repeat([]impl.DOp{appendOp("a", "x")}, many)
}

func TestTwoHundredOps(t *testing.T) {
	d := diskOf(t, nil, opsUpTo(diskOps-1)...)
	for _, op := range []impl.DOp{appendOp("a", "x"), renameOp("a", "b"), removeOp("a"), appendOp("a", "")} {
		e := wantDo(t, d, op, diskOf(t, nil, append(opsUpTo(diskOps-1), op)...))
		for _, more := range []impl.DOp{appendOp("a", "x"), appendOp("b", ""), appendOp("a", "")} {
			wantNotDone(t, "200 ops", e, more, impl.DkFull)
		}
		wantNotDone(t, "200 ops, and no form", e, impl.DOp{Kind: 4, Name: "a"}, impl.DkForm)
		wantNotDone(t, "200 ops, and no file", e, removeOp("none"), impl.DkNone)
		wantNotDone(t, "200 ops, and no file", e, renameOp("none", "a"), impl.DkNone)
		for _, f := range e.Live {
			wantNotDone(t, "200 ops", e, removeOp(f.Name), impl.DkFull)
			wantNotDone(t, "200 ops", e, renameOp(f.Name, "c"), impl.DkFull)
		}
		if d := impl.Sync(e); !sameDisk(d, impl.Disk{Live: e.Live, Safe: e.Live}) {
			t.Errorf("Sync of 200 ops answers %s", brief(d))
		}
		// One op more, which would be right but for their number.
		e.Ops = append(slices.Clip(e.Ops), appendOp("new", ""))
		e.Live = append(slices.Clip(e.Live), impl.File{Name: "new"})
		wantNoDisk(t, "201 ops", e)
	}
	wantNoDisk(t, "a thousand ops", impl.Disk{Live: []impl.File{{Name: "a"}}, Ops: slices.Repeat([]impl.DOp{appendOp("a", "")}, 1000)})
}

func TestSixtyFiles(t *testing.T) {
	l := filesNamed(diskFiles - 1)
	d := impl.Disk{Live: l, Safe: l}
	last := appendOp("last", "")
	full := filesNamed(diskFiles - 1)
	full = append(full, impl.File{Name: "last"})
	e := wantDo(t, d, last, impl.Disk{Live: full, Safe: l, Ops: []impl.DOp{last}})
	wantNotDone(t, "61 files", e, appendOp("more", ""), impl.DkFull)
	wantNotDone(t, "61 files", e, appendOp("f", "x"), impl.DkFull)
	behind := plainOf(full)
	for _, op := range []impl.DOp{appendOp("last", "x"), appendOp("f00", "x"), renameOp("last", "more"), renameOp("last", "f00"), removeOp("f58")} {
		wantDo(t, e, op, impl.Disk{Live: behind.with(op).list(), Safe: l, Ops: []impl.DOp{last, op}})
	}
}

func TestTwoHundredThousandBytes(t *testing.T) {
	l := []impl.File{{Name: "a", Data: noughts(diskBytes - 10)}, {Name: "b", Data: "1234567"}}
	d := impl.Disk{Live: l, Safe: l}
	for _, name := range []string{"a", "b", "c"} {
		op := appendOp(name, "xyz")
		e := wantDo(t, d, op, impl.Disk{Live: plainOf(l).with(op).list(), Safe: l, Ops: []impl.DOp{op}})
		for _, more := range []string{"a", "b", "c"} {
			wantNotDone(t, "a byte more", e, appendOp(more, "x"), impl.DkFull)
			wantNotDone(t, "a byte more", d, appendOp(more, "wxyz"), impl.DkFull)
			wantNotDone(t, "many more", d, appendOp(more, noughts(300000)), impl.DkFull)
		}
		wantDo(t, e, appendOp("b", ""), impl.Disk{Live: e.Live, Safe: l, Ops: []impl.DOp{op, appendOp("b", "")}})
		wantDo(t, e, removeOp("b"), impl.Disk{Live: plainOf(e.Live).with(removeOp("b")).list(), Safe: l, Ops: []impl.DOp{op, removeOp("b")}})
	}
}

func TestReadFile(t *testing.T) {
	d := plainDisk(t)
	for name, want := range map[string]string{"a": "5", "e": "22", "f": ""} {
		if s, ok := impl.ReadFile(d, name); !ok || s != want {
			t.Errorf("%s is %q, %v", name, s, ok)
		}
	}
	// What is safe alone is not read.
	for _, name := range []string{"", "b", "c", "d", "A", "aa", "g", strings.Repeat("n", longestName), strings.Repeat("n", longestName+1)} {
		wantNoFile(t, "no such file", d, name)
		wantNoFile(t, "no files", impl.Disk{}, name)
	}
}

func TestCrash(t *testing.T) {
	d := plainDisk(t)
	safe, all := d.Safe, []int64{0, 1, 2, 3, 4, 5}
	wantCrash(t, "nothing kept", d, nil, 0, safe)
	wantCrash(t, "nothing kept", d, []int64{}, 99, safe)
	wantCrash(t, "all kept", d, all, 0, d.Live)
	wantCrash(t, "all but the last one", d, all[:5], 0, d.Live[:2])
	b, c := safe[1], safe[2]
	for _, torn := range []int64{1, 2, 1 << 32, 1<<32 + 1, greatestInt} {
		wantCrash(t, "the first append", d, []int64{0}, torn, []impl.File{{Name: "a", Data: "14"}, b, c})
		wantCrash(t, "the second one", d, []int64{1}, torn, append(slices.Clip(safe), impl.File{Name: "d", Data: "5"}))
	}
	wantCrash(t, "the first append, torn", d, []int64{0}, 0, safe)
	wantCrash(t, "an append to no file, torn", d, []int64{1}, 0, append(slices.Clip(safe), impl.File{Name: "d"}))
	wantCrash(t, "one that is not the last one is whole", d, []int64{0, 3}, 0, []impl.File{{Name: "a", Data: "14"}, b})
	wantCrash(t, "one that is not the last append is whole", d, []int64{0, 1}, 0, []impl.File{{Name: "a", Data: "14"}, b, c, {Name: "d"}})
	wantCrash(t, "a rename of no file", d, []int64{4}, 0, safe)
	wantCrash(t, "a rename of no file, and more", d, []int64{0, 4, 5}, 0, []impl.File{{Name: "a", Data: "14"}, b, c, {Name: "f"}})
	wantCrash(t, "a rename", d, []int64{2}, 0, []impl.File{safe[0], c, {Name: "e", Data: "22"}})
	wantCrash(t, "a remove", d, []int64{3}, 0, safe[:2])
	for _, keep := range [][]int64{{-1}, {-1, 0}, {6}, {0, 6}, {0, 0}, {0, 1, 1}, {1, 0}, {0, 2, 1}, {0, 1, 2, 3, 4, 5, 6}, {leastInt}, {greatestInt}, {0, greatestInt}, {1 << 32}, {leastInt, 0}, {5, leastInt}} {
		wantNoCrash(t, "places that are none or do not rise", d, keep, 0)
		wantNoCrash(t, "places that are none or do not rise", d, keep, 9)
	}
	for _, torn := range []int64{-1, -2, leastInt} {
		for _, keep := range [][]int64{nil, {0}, {2}, all} {
			wantNoCrash(t, "torn below 0", d, keep, torn)
		}
	}
	wantCrash(t, "no disk yet", impl.Disk{}, nil, 5, nil)
	wantNoCrash(t, "no disk yet", impl.Disk{}, []int64{0}, 5)
}

func TestCrashTorn(t *testing.T) {
	d := diskOf(t, []impl.File{{Name: "a", Data: "1"}}, appendOp("a", "23"), appendOp("a", "456789"))
	for torn := range int64(9) {
		wantCrash(t, "both", d, []int64{0, 1}, torn, []impl.File{{Name: "a", Data: "123456789"[:3+min(torn, 6)]}})
		wantCrash(t, "the first one", d, []int64{0}, torn, []impl.File{{Name: "a", Data: "123"[:1+min(torn, 2)]}})
		wantCrash(t, "the last one", d, []int64{1}, torn, []impl.File{{Name: "a", Data: "1456789"[:1+min(torn, 6)]}})
	}
}

// What is left out may be what made room.
func TestCrashThatLeavesTooMuch(t *testing.T) {
	half := noughts(diskBytes / 2)
	d := diskOf(t, nil, appendOp("a", half), appendOp("b", half), removeOp("a"), appendOp("c", "x"))
	left := []impl.File{{Name: "a", Data: half}, {Name: "b", Data: half}}
	wantNoCrash(t, "a byte more", d, []int64{0, 1, 3}, 9)
	wantNoCrash(t, "a byte more", d, []int64{0, 1, 3}, 1)
	wantCrash(t, "a byte more, torn", d, []int64{0, 1, 3}, 0, append(left, impl.File{Name: "c"}))
	wantCrash(t, "as many as there may be", d, []int64{0, 1}, diskBytes, left)
	wantCrash(t, "all", d, []int64{0, 1, 2, 3}, 9, d.Live)
	// Between there may be too many.
	d = diskOf(t, nil, appendOp("a", half), removeOp("a"), appendOp("b", half), appendOp("b", half), removeOp("b"), appendOp("c", half))
	wantCrash(t, "too many between", d, []int64{0, 2, 3, 4, 5}, 1, []impl.File{{Name: "a", Data: half}, {Name: "c", Data: half[:1]}})
	wantNoCrash(t, "too many at the end", d, []int64{0, 2, 3, 5}, 0)
	l := filesNamed(diskFiles)
	d = diskOf(t, l, removeOp("f07"), appendOp("x", "data"), renameOp("x", "f00"), appendOp("f00", "more"))
	wantNoCrash(t, "61 files", d, []int64{1}, 0)
	wantNoCrash(t, "61 files", d, []int64{1, 3}, 0)
	wantCrash(t, "61 files between", d, []int64{1, 2}, 0, plainFiles(plainOf(l)).with(appendOp("f00", "data")).list())
	wantCrash(t, "60 files", d, []int64{3}, 2, plainOf(l).with(appendOp("f00", "mo")).list())
}

// Many bytes that are removed each time, and are all there when no remove is kept.
func TestCrashThatLeavesMuchTooMuch(t *testing.T) {
	var ops []impl.DOp
	var appends []int64
	for i := range diskOps / 2 {
		ops = append(ops, appendOp("a", noughts(diskBytes)), removeOp("a"))
		appends = append(appends, int64(2*i))
	}
	d := impl.Disk{Ops: ops}
	wantDisk(t, "full and empty in turns", d)
	wantNoCrash(t, "all that was ever there", d, appends, diskBytes)
	wantCrash(t, "one of them", d, appends[40:41], diskBytes, []impl.File{{Name: "a", Data: noughts(diskBytes)}})
	wantCrash(t, "all of them, gone at the end", d, append(slices.Clip(appends), diskOps-1), 0, nil)
}

func TestReplace(t *testing.T) {
	a, b := impl.File{Name: "a", Data: "1"}, impl.File{Name: "a.new", Data: "22"}
	put := func(data string) []impl.DOp { return []impl.DOp{appendOp("a.new", data), renameOp("a.new", "a")} }
	for _, data := range []string{"", "x", "data\x00", noughts(1000)} {
		for _, c := range []struct {
			files []impl.File
			ops   []impl.DOp
		}{
			{nil, put(data)}, {[]impl.File{a}, put(data)},
			{[]impl.File{b}, append([]impl.DOp{removeOp("a.new")}, put(data)...)}, {[]impl.File{a, b}, append([]impl.DOp{removeOp("a.new")}, put(data)...)},
		} {
			d := diskOf(t, c.files, appendOp("z", "last"))
			want := impl.Disk{Live: []impl.File{{Name: "a", Data: data}, {Name: "z", Data: "last"}}, Safe: c.files, Ops: append(slices.Clip(d.Ops), c.ops...)}
			e, code := impl.Replace(d, "a", data)
			if code != impl.DkOk || !sameDisk(e, want) {
				t.Errorf("Replace on %v answers %d, %s", c.files, code, brief(e))
			}
			wantDisk(t, "replaced", e)
		}
	}
	long := strings.Repeat("n", longestName-4)
	e, code := impl.Replace(impl.Disk{}, long, "x")
	if code != impl.DkOk || !slices.Equal(e.Live, []impl.File{{Name: long, Data: "x"}}) || e.Ops[0].Name != long+".new" {
		t.Errorf("a name of 96 bytes: %d, %s", code, brief(e))
	}
}

func wantNotReplaced(t *testing.T, what string, d impl.Disk, name string, data string, want int64) {
	t.Helper()
	e, code := impl.Replace(d, name, data)
	if code != want || !sameDisk(e, d) {
		t.Errorf("%s: Replace answers %d, want %d, %s", what, code, want, brief(e))
	}
}

// Each of the three steps is refused, and the disk is as it was ahead of all.
func TestReplaceThatIsRefused(t *testing.T) {
	long := strings.Repeat("n", longestName)
	for _, d := range []impl.Disk{{}, plainDisk(t), diskOf(t, []impl.File{{Name: ".new", Data: "x"}}), diskOf(t, nil, opsUpTo(diskOps-2)...)} {
		wantNotReplaced(t, "no name", d, "", "x", impl.DkForm)
		for _, size := range []int{longestName - 3, longestName} {
			wantNotReplaced(t, "a long name", d, long[:size], "x", impl.DkForm)
		}
		wantNotReplaced(t, "a longer name", d, long+"n", "x", impl.DkForm)
	}
	for ops := diskOps - 3; ops <= diskOps; ops++ {
		for _, safe := range [][]impl.File{nil, {{Name: "b.new", Data: "old"}}} {
			d := diskOf(t, safe, opsUpTo(ops)...)
			room := diskOps - 2 - len(safe)
			if ops > room {
				wantNotReplaced(t, fmt.Sprint(ops, " ops"), d, "b", "x", impl.DkFull)
				continue
			}
			e, code := impl.Replace(d, "b", "x")
			if code != impl.DkOk || len(e.Ops) != ops+2+len(safe) || e.Live[1] != (impl.File{Name: "b", Data: "x"}) {
				t.Errorf("%d ops: %d, %s", ops, code, brief(e))
			}
		}
	}
	wantNotReplaced(t, "no name, and too many ops for one", diskOf(t, nil, opsUpTo(diskOps)...), "", "x", impl.DkFull)
	l := filesNamed(diskFiles)
	wantNotReplaced(t, "60 files", impl.Disk{Live: l, Safe: l}, "f07", "x", impl.DkFull)
	l[8].Name = "f07.new"
	e, code := impl.Replace(impl.Disk{Live: l, Safe: l}, "f07", "x")
	if code != impl.DkOk || len(e.Live) != diskFiles-1 || e.Live[7] != (impl.File{Name: "f07", Data: "x"}) {
		t.Errorf("60 files with the other name: %d, %s", code, brief(e))
	}
	l = []impl.File{{Name: "a", Data: noughts(1000)}}
	d := impl.Disk{Live: l, Safe: l}
	wantNotReplaced(t, "too many bytes while both are there", d, "a", noughts(diskBytes-999), impl.DkFull)
	wantNotReplaced(t, "many more", d, "a", noughts(diskBytes+1), impl.DkFull)
	if e, code := impl.Replace(d, "a", noughts(diskBytes-1000)); code != impl.DkOk || e.Live[0].Data != noughts(diskBytes-1000) {
		t.Errorf("as many bytes as may be: %d", code)
	}
	l = append(l, impl.File{Name: "a.new", Data: "old"})
	d = impl.Disk{Live: l, Safe: l}
	wantNotReplaced(t, "too many bytes, the other name removed", d, "a", noughts(diskBytes-999), impl.DkFull)
	if e, code := impl.Replace(d, "a", noughts(diskBytes-1000)); code != impl.DkOk || e.Live[0].Data != noughts(diskBytes-1000) {
		t.Errorf("as many bytes as may be, the other name there: %d", code)
	}
}

// A diskPlayer makes ops, most of which can be done.
type diskPlayer struct {
	maker
}

var someNames = []string{"a", "a.new", "b", "c", "log", "log.new", "\xff"}

func (m *diskPlayer) name() string {
	return someNames[m.below(int64(len(someNames)))]
}

func (m *diskPlayer) op() impl.DOp {
	switch m.below(5) {
	case 0:
		return renameOp(m.name(), m.name())
	case 1:
		return removeOp(m.name())
	}
	// Never one byte, as texts of one byte may lie in one place for all.
	return appendOp(m.name(), m.text(2*int(m.below(3))))
}

// disk gives one with so many ops, told by the plain files alone.
func (m *diskPlayer) disk(ahead int, since int) impl.Disk {
	var d impl.Disk
	for range ahead {
		d, _ = plainDo(d, m.op())
	}
	d = impl.Disk{Live: d.Live, Safe: d.Live}
	for len(d.Ops) < since {
		d, _ = plainDo(d, m.op())
	}
	return d
}

func TestDiskAgainstPlainFiles(t *testing.T) {
	m := diskPlayer{maker{state: 121}}
	codes := map[int64]int{}
	for round := range 20 {
		var d impl.Disk
		for i := range 400 {
			op := m.op()
			if m.below(20) == 0 {
				op = badOps()[m.below(int64(len(badOps())))]
			}
			want, wantCode := plainDo(d, op)
			e, code := impl.Do(d, op)
			if code != wantCode || !sameDisk(e, want) {
				t.Fatalf("round %d, op %d, %s: %d, %s, want %d, %s", round, i, brief(op), code, brief(e), wantCode, brief(want))
			}
			codes[code]++
			d = e
			if round%3 > 0 && m.below(30) == 0 {
				d = impl.Sync(d)
				if !sameDisk(d, impl.Disk{Live: want.Live, Safe: want.Live}) {
					t.Fatalf("round %d, Sync behind %d: %s", round, i, brief(d))
				}
			}
		}
	}
	for code := range int64(impl.DkFull + 1) {
		if code != impl.DkDisk && codes[code] < 50 {
			t.Errorf("code %d came %d times", code, codes[code])
		}
	}
}

// plainCrash loses power on a disk that is right, with places that rise.
func plainCrash(d impl.Disk, keep []int64, torn int64) (impl.Disk, bool) {
	files := plainOf(d.Safe)
	for i, at := range keep {
		op := d.Ops[at]
		if i == len(keep)-1 && torn < int64(len(op.Data)) {
			op.Data = op.Data[:torn]
		}
		files = files.with(op)
	}
	if !files.fit() {
		return impl.Disk{}, false
	}
	return impl.Disk{Live: files.list(), Safe: files.list()}, true
}

// subset gives the places of the bits of n that are 1.
func subset(n int) []int64 {
	var out []int64
	for at := int64(0); n>>at > 0; at++ {
		if n>>at&1 == 1 {
			out = append(out, at)
		}
	}
	return out
}

// All that may be kept of some ops.
func TestCrashAgainstPlainFiles(t *testing.T) {
	m := diskPlayer{maker{state: 122}}
	for round := range 40 {
		d := m.disk(10, 7)
		for n := range 1 << 7 {
			for _, torn := range []int64{0, 1, 3, 9} {
				want, wantOk := plainCrash(d, subset(n), torn)
				e, ok := impl.Crash(d, subset(n), torn)
				if ok != wantOk || !sameDisk(e, want) || !impl.DiskOk(e) {
					t.Fatalf("round %d, %v, %d: %v, %s, want %s", round, subset(n), torn, ok, brief(e), brief(want))
				}
			}
		}
	}
}

// Promise 11: with all ops kept, whole, the files are those that were seen; with none those that were synced.
func TestAllOrNothingIsKept(t *testing.T) {
	m := diskPlayer{maker{state: 123}}
	for round := range 60 {
		since := int(m.below(40))
		if round%10 == 0 {
			since = diskOps
		}
		d := m.disk(30, since)
		all := make([]int64, since)
		longest := int64(0)
		for i, op := range d.Ops {
			all[i] = int64(i)
			longest = max(longest, int64(len(op.Data)))
		}
		what := fmt.Sprint("round ", round)
		for _, torn := range []int64{longest, longest + 1, diskBytes, greatestInt} {
			wantCrash(t, what, d, all, torn, d.Live)
		}
		for _, torn := range []int64{0, longest, greatestInt} {
			wantCrash(t, what, d, nil, torn, d.Safe)
		}
		if e := impl.Sync(d); !sameDisk(e, impl.Disk{Live: d.Live, Safe: d.Live}) {
			t.Errorf("%s: Sync answers %s", what, brief(e))
		}
	}
}

func diskTexts(d impl.Disk) []string {
	var out []string
	for _, l := range [][]impl.File{d.Live, d.Safe} {
		for _, f := range l {
			out = append(out, f.Name, f.Data)
		}
	}
	for _, op := range d.Ops {
		out = append(out, op.Name, op.To, op.Data)
	}
	return out
}

func spoilDisk(d impl.Disk) {
	clear(d.Live[:cap(d.Live)])
	clear(d.Safe[:cap(d.Safe)])
	clear(d.Ops[:cap(d.Ops)])
}

// roomyDisk gives a disk with room behind its lists, and these with their room; a list of no things has none.
func roomyDisk(d impl.Disk) (impl.Disk, impl.Disk) {
	room := impl.Disk{
		Live: append(slices.Clone(d.Live), impl.File{Name: "room", Data: "behind"}),
		Safe: append(slices.Clone(d.Safe), impl.File{Name: "room", Data: "behind"}),
		Ops:  append(slices.Clone(d.Ops), appendOp("room", "behind")),
	}
	return impl.Disk{Live: room.Live[:len(d.Live)], Safe: room.Safe[:len(d.Safe)], Ops: room.Ops[:len(d.Ops)]}, room
}

func copyOfDisk(d impl.Disk) impl.Disk {
	return impl.Disk{Live: slices.Clone(d.Live), Safe: slices.Clone(d.Safe), Ops: slices.Clone(d.Ops)}
}

// Promise 15, of disks.
func TestDisksStayAndAreNewMemory(t *testing.T) {
	m := diskPlayer{maker{state: 124}}
	for round := range 60 {
		d, room := roomyDisk(m.disk(10, 12))
		kept := copyOfDisk(room)
		op, name, data := appendOp(strings.Clone("a.name"), m.text(9)), strings.Clone("c.name"), m.text(9)
		if round%2 > 0 {
			op = renameOp(strings.Clone(d.Ops[0].Name), strings.Clone("to.name"))
		}
		keep := append(make([]int64, 0, 9), 0, 2, 3)
		calls := map[string]func() impl.Disk{
			"Do":               func() impl.Disk { e, _ := impl.Do(d, op); return e },
			"Do that refuses":  func() impl.Disk { e, _ := impl.Do(d, impl.DOp{}); return e },
			"Sync":             func() impl.Disk { return impl.Sync(d) },
			"Crash":            func() impl.Disk { e, _ := impl.Crash(d, keep, 2); return e },
			"Replace":          func() impl.Disk { e, _ := impl.Replace(d, name, data); return e },
			"Replace, refused": func() impl.Disk { e, _ := impl.Replace(d, "", data); return e },
		}
		given := append(diskTexts(d), op.Name, op.To, op.Data, name, data)
		for what, call := range calls {
			first := call()
			want := copyOfDisk(first)
			wantApart(t, what, diskTexts(first), given)
			wantApart(t, what+", lists of one answer", diskTexts(impl.Disk{Live: first.Live}), diskTexts(impl.Disk{Safe: first.Safe, Ops: first.Ops}))
			spoilDisk(first)
			if second := call(); !sameDisk(second, want) {
				t.Errorf("round %d, %s: another answer: %s", round, what, brief(second))
			}
			if !sameDisk(room, kept) || !slices.Equal(keep[:9], []int64{0, 2, 3, 0, 0, 0, 0, 0, 0}) {
				t.Fatalf("round %d, %s: what was given is another now", round, what)
			}
		}
		for _, f := range d.Live {
			s, _ := impl.ReadFile(d, f.Name)
			wantApart(t, "ReadFile", []string{s}, given)
		}
	}
}

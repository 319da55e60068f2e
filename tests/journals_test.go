package tests

import (
	"encoding/binary"
	"fmt"
	"hash/crc32"
	"slices"
	"strconv"
	"strings"
	"testing"

	"loop.example/g00675/impl"
)

const (
	mostFrame = 100000
	mostCmds  = 80
)

func TestJournalNumbers(t *testing.T) {
	for want, code := range []int64{impl.StOk, impl.StDisk, impl.StNone, impl.StForm, impl.StFull, impl.StPower, impl.StTorn} {
		wantNumber(t, "a code of journals", code, int64(want))
	}
	for i, kind := range []int64{impl.AcNew, impl.AcAdd, impl.AcOpen, impl.AcCrash} {
		wantNumber(t, "a kind of acts", kind, int64(i+1))
	}
}

// logFrame gives a frame of as many bytes as one may ask, also of more than there may be.
func logFrame(data string) string {
	out := binary.BigEndian.AppendUint32(nil, uint32(len(data)))
	out = binary.LittleEndian.AppendUint32(out, crc32.ChecksumIEEE([]byte(data)))
	return string(out) + data
}

func framedTexts() []string {
	m := maker{state: 131}
	list := []string{"", "\x00", "\xff", "a", "abc", "123456789", noughts(4), noughts(100), strings.Repeat("\xff", 9)}
	for _, size := range []int{255, 256, 257, 4000, 65535, 65536, mostFrame - 1, mostFrame} {
		list = append(list, m.text(size))
	}
	return list
}

func TestFrameOf(t *testing.T) {
	for _, c := range [][2]string{
		{"", "\x00\x00\x00\x00\x00\x00\x00\x00"},
		{"123456789", "\x00\x00\x00\x09\x26\x39\xf4\xcb123456789"},
		{"a", "\x00\x00\x00\x01\x43\xbe\xb7\xe8a"},
		{"\x00", "\x00\x00\x00\x01\x8d\xef\x02\xd2\x00"},
	} {
		wantText(t, brief(c[0]), impl.FrameOf(c[0]), c[1])
	}
	for _, s := range framedTexts() {
		if impl.FrameOf(s) != logFrame(s) {
			t.Errorf("the frame of %s: %s", brief(s), brief(impl.FrameOf(s)))
		}
	}
	for b := range 256 {
		if s := string([]byte{byte(b), 'x'}); impl.FrameOf(s) != logFrame(s) {
			t.Errorf("the frame of %q: %q", s, impl.FrameOf(s))
		}
	}
	for _, size := range []int{mostFrame + 1, 2 * mostFrame, 1 << 20} {
		wantText(t, fmt.Sprint(size, " bytes"), impl.FrameOf(noughts(size)), "")
	}
}

func wantFrames(t *testing.T, what string, s string, want []string, wantEnd int) {
	t.Helper()
	got, end := impl.TakeFrames(s)
	if !slices.Equal(got, want) || end != int64(wantEnd) {
		t.Errorf("%s: %d frames up to %d, %s, want %d up to %d", what, len(got), end, brief(got), len(want), wantEnd)
	}
}

func TestTakeFrames(t *testing.T) {
	all := ""
	for i, s := range framedTexts() {
		wantFrames(t, brief(s), impl.FrameOf(s), []string{s}, len(s)+8)
		wantFrames(t, brief(s)+" and a byte", impl.FrameOf(s)+"\x00", []string{s}, len(s)+8)
		all += impl.FrameOf(s)
		wantFrames(t, "one behind the other", all, framedTexts()[:i+1], len(all))
		wantFrames(t, "a byte ahead", "x"+all, nil, 0)
	}
	for _, s := range []string{"", "\x00", noughts(7), "x", "abcdefghijkl", strings.Repeat("\xff", 20)} {
		wantFrames(t, brief(s), s, nil, 0)
		wantFrames(t, "behind a frame "+brief(s), impl.FrameOf("abc")+s, []string{"abc"}, 11)
	}
	// Noughts are frames of no bytes.
	wantFrames(t, "noughts", noughts(9), []string{""}, 8)
	wantFrames(t, "many noughts", noughts(8*3000+7), make([]string, 3000), 8*3000)
}

func TestFramesThatAreNone(t *testing.T) {
	long := noughts(mostFrame + 1)
	wantFrames(t, "a byte more than may be", logFrame(long), nil, 0)
	wantFrames(t, "a byte more than may be, behind a frame", logFrame("")+logFrame(long)+logFrame(""), []string{""}, 8)
	for _, size := range []string{"\xff\xff\xff\xff", "\x80\x00\x00\x00", "\x7f\xff\xff\xff", "\x00\x00\x00\x04", "\x00\x00\x00\x02", "\x00\x00\x00\x00", "\x03\x00\x00\x00"} {
		wantFrames(t, "another size", size+logFrame("abc")[4:], nil, 0)
	}
	turned := []byte(logFrame("abc"))
	slices.Reverse(turned[4:8])
	wantFrames(t, "a sum the highest first", string(turned), nil, 0)
}

func TestFramesCutAndChanged(t *testing.T) {
	texts := []string{"abc", "", "\x00\x01\x02", "0 tick 1"}
	all, ends := "", []int{0}
	for _, s := range texts {
		all += impl.FrameOf(s)
		ends = append(ends, len(all))
	}
	for at := range len(all) + 1 {
		whole := 0
		for whole+1 < len(ends) && ends[whole+1] <= at {
			whole++
		}
		wantFrames(t, fmt.Sprint("cut at ", at), all[:at], texts[:whole], ends[whole])
		if at == len(all) {
			continue
		}
		for _, by := range []byte{1, 2, 16, 128, 255} {
			wantFrames(t, fmt.Sprintf("changed by %d at %d", by, at), with(all, at, all[at]^by), texts[:whole], ends[whole])
		}
	}
}

// logOf gives the log of these commands.
func logOf(list ...impl.Cmd) string {
	out := ""
	for i, c := range list {
		out += logFrame(strconv.Itoa(i) + " " + plainText(c))
	}
	return out
}

// logDisk has a log of these bytes, and nothing to sync.
func logDisk(log string) impl.Disk {
	l := []impl.File{{Name: "log", Data: log}}
	return impl.Disk{Live: l, Safe: l}
}

// ticks gives so many commands that are told apart.
func ticks(many int) []impl.Cmd {
	var list []impl.Cmd
	for i := range many {
		list = append(list, tickCmd(int64(i+1)))
	}
	return list
}

func wantView(t *testing.T, what string, d impl.Disk, want []impl.Cmd) {
	t.Helper()
	got, code := impl.StoreView(d)
	if code != impl.StOk || !slices.EqualFunc(got, want, sameCmd) {
		t.Errorf("%s: StoreView answers %d, %d commands, %s, want %d", what, code, len(got), brief(got), len(want))
	}
	g, answers, code := impl.Recovered(d)
	wantGate, wantAnswers := impl.Play(want)
	if code != impl.StOk || !sameGate(g, wantGate) || !slices.EqualFunc(answers, wantAnswers, sameAnswer) {
		t.Errorf("%s: Recovered answers %d, %s, %s", what, code, brief(g), brief(answers))
	}
}

func wantNoView(t *testing.T, what string, d impl.Disk, want int64) {
	t.Helper()
	if got, code := impl.StoreView(d); code != want || len(got) != 0 {
		t.Errorf("%s: StoreView answers %d, %s", what, code, brief(got))
	}
	if g, answers, code := impl.Recovered(d); code != want || !sameGate(g, impl.Gate{}) || len(answers) != 0 {
		t.Errorf("%s: Recovered answers %d, %s, %s", what, code, brief(g), brief(answers))
	}
}

// wantAct: the code of an act, and the disk behind it.
func wantAct(t *testing.T, what string, d impl.Disk, a impl.Act, want int64, wantDisk impl.Disk) {
	t.Helper()
	e, code := impl.StoreDo(d, a)
	if code != want || !sameDisk(e, wantDisk) {
		t.Errorf("%s: act %d with power %d answers %d, want %d, %s, want %s", what, a.Kind, a.Power, code, want, brief(e), brief(wantDisk))
	}
	if !impl.DiskOk(e) {
		t.Errorf("%s: act %d with power %d leaves a disk that is not right: %s", what, a.Kind, a.Power, brief(e))
	}
}

// wantLog: what counts of a log is these commands, and their log; whether it is good is seen by what is done with it.
func wantLog(t *testing.T, what string, log string, want []impl.Cmd) {
	t.Helper()
	d := logDisk(log)
	counts := logOf(want...)
	wantView(t, what, d, want)
	add := impl.Act{Kind: impl.AcAdd, C: tickCmd(7), Power: -1}
	open := impl.Act{Kind: impl.AcOpen, Power: -1}
	if log != counts {
		wantAct(t, what, d, add, impl.StTorn, d)
		wantAct(t, what, d, open, impl.StOk, logDisk(counts))
		return
	}
	wantAct(t, what, d, open, impl.StOk, d)
	if len(want) == mostCmds {
		wantAct(t, what, d, add, impl.StFull, d)
		return
	}
	more := logOf(append(slices.Clip(want), add.C)...)
	wantAct(t, what, d, add, impl.StOk, impl.Disk{Live: logDisk(more).Live, Safe: d.Safe, Ops: []impl.DOp{appendOp("log", more[len(log):])}})
}

func TestGoodLogs(t *testing.T) {
	wantLog(t, "an empty log", "", nil)
	for many := range 13 {
		wantLog(t, fmt.Sprint(many, " commands"), logOf(ticks(many)...), ticks(many))
	}
	wantLog(t, "79 commands", logOf(ticks(79)...), ticks(79))
	wantLog(t, "80 commands", logOf(ticks(80)...), ticks(80))
	wantLog(t, "a command of each kind", logOf(oneOfEach()...), oneOfEach())
	m := player{maker: maker{state: 132}}
	for round := range 20 {
		var list []impl.Cmd
		for range 30 {
			list = append(list, someCmd(&m.maker))
		}
		wantLog(t, fmt.Sprint("commands of round ", round), logOf(list...), list)
	}
	long := []impl.Cmd{frameCmd(m.text(mostData)), wireCmd(m.text(mostData))}
	wantLog(t, "the longest commands", logOf(long[:1]...), long[:1])
	wantView(t, "the longest commands", logDisk(logOf(long...)), long)
}

func TestLogsTornInTheirLastFrame(t *testing.T) {
	list := append(ticks(3), macCmd(5, 1))
	log, whole := logOf(list...), logOf(list[:3]...)
	last := log[len(whole):]
	for at := range last {
		wantLog(t, fmt.Sprint("cut at ", at), whole+last[:at], list[:3])
		wantLog(t, fmt.Sprint("changed at ", at), whole+with(last, at, last[at]^1), list[:3])
		wantLog(t, fmt.Sprint("changed, and a good one behind it, at ", at), whole+with(last, at, last[at]^1)+last, list[:3])
		if at > 0 {
			wantLog(t, fmt.Sprint("cut, and a good one behind it, at ", at), whole+last[:at]+last, list[:3])
		}
	}
	// What lies behind a frame that is torn does not count, though its number would be right.
	for i := 1; i < len(list); i++ {
		head := logOf(list[:i]...)
		wantLog(t, fmt.Sprint("a byte lost ahead of frame ", i), head[:len(head)-1]+log[len(head):], list[:i-1])
	}
}

func TestFramesThatAreNoCommands(t *testing.T) {
	two, more := logOf(ticks(2)...), logFrame("2 tick 3")
	for _, data := range []string{
		"", "2", "2 ", " ", "tick 3", " tick 3", "2  tick 3", " 2 tick 3", "2 tick 3 ", "2 tick 3\n", "2\ttick 3", "2tick 3", "2 tick", "2 tick 0", "2 tick 03", "2 tick 1001", "2 what 3", "2 Tick 3",
		"1 tick 3", "3 tick 3", "20 tick 3", "12 tick 3", "22 tick 3", "02 tick 3", "002 tick 3", "+2 tick 3", "-2 tick 3", "2. tick 3", "2.0 tick 3", "0x2 tick 3", "\x002 tick 3", "18446744073709551618 tick 3", "4294967298 tick 3", "x tick 3",
		"2 2 tick 3", "2 tick 3 2 tick 3",
	} {
		wantLog(t, "at the end "+brief(data), two+logFrame(data), ticks(2))
		wantLog(t, "between "+brief(data), two+logFrame(data)+more, ticks(2))
		wantLog(t, "ahead of all "+brief(data), logFrame(data)+logOf(ticks(3)...), nil)
	}
	wantLog(t, "the number of the first one", two+logFrame("0 tick 3")+more, ticks(2))
	wantLog(t, "a good one", two+more, ticks(3))
	wantLog(t, "noughts", noughts(8), nil)
	wantLog(t, "noughts behind", two+noughts(800), ticks(2))
	for _, data := range []string{"00 tick 1", "-0 tick 1", "+0 tick 1", "1 tick 1", " tick 1", "0 0 tick 1"} {
		wantLog(t, "the first one "+data, logFrame(data), nil)
	}
	// What was one command more, once ten came.
	ten := logOf(ticks(10)...)
	for _, number := range []string{"9", "010", "11", "1", "0", "100"} {
		wantLog(t, "the number "+number, ten+logFrame(number+" tick 11"), ticks(10))
	}
	long := "0 frame " + strings.Repeat("00", mostData+1)
	wantLog(t, "a command that may not be", logFrame(long), nil)
	wantLog(t, "a frame that is too long", logFrame("0 "+noughts(mostFrame)), nil)
}

func TestMoreThanEightyCommands(t *testing.T) {
	full := logOf(ticks(mostCmds)...)
	wantLog(t, "81 commands", logOf(ticks(mostCmds+1)...), ticks(mostCmds))
	wantLog(t, "100 commands", logOf(ticks(100)...), ticks(mostCmds))
	wantLog(t, "80 commands and a byte", full+"x", ticks(mostCmds))
	wantLog(t, "80 commands and a frame of another number", full+logFrame("0 tick 1"), ticks(mostCmds))
	wantLog(t, "79 commands and a byte", logOf(ticks(mostCmds-1)...)+"\x00", ticks(mostCmds-1))
}

func TestNoLog(t *testing.T) {
	l := []impl.File{{Name: "Log"}, {Name: "l"}, {Name: "log.new", Data: logOf(ticks(2)...)}, {Name: "logs", Data: "x"}}
	gone := diskOf(t, logDisk(logOf(ticks(2)...)).Safe, removeOp("log"))
	for _, d := range []impl.Disk{{}, {Live: l, Safe: l}, gone} {
		wantNoView(t, "no log", d, impl.StNone)
		for _, power := range []int64{-1, 0, 1, 9} {
			for _, a := range []impl.Act{{Kind: impl.AcAdd, C: tickCmd(1)}, {Kind: impl.AcAdd}, {Kind: impl.AcAdd, C: tickCmd(1), Sync: true}, {Kind: impl.AcOpen}} {
				a.Power = power
				wantAct(t, "no log", d, a, impl.StNone, d)
			}
		}
	}
	wantAct(t, "the log's remove is lost", gone, impl.Act{Kind: impl.AcCrash}, impl.StOk, impl.Disk{Live: gone.Safe, Safe: gone.Safe})
	wantAct(t, "the log's remove is kept", gone, impl.Act{Kind: impl.AcCrash, Keep: []int64{0}}, impl.StNone, impl.Disk{})
	fresh := diskOf(t, l, appendOp("log", ""))
	wantView(t, "a fresh log", fresh, nil)
	wantAct(t, "a log that is lost", fresh, impl.Act{Kind: impl.AcCrash, Power: -1}, impl.StNone, impl.Disk{Live: l, Safe: l})
}

func TestJournalOnNoDisk(t *testing.T) {
	l := []impl.File{{Name: "log"}}
	for _, d := range []impl.Disk{{Live: l}, {Live: l, Safe: l, Ops: []impl.DOp{{}}}, {Live: []impl.File{{}}, Safe: []impl.File{{}}}} {
		wantNoView(t, "no disk", d, impl.StDisk)
		for _, kind := range []int64{impl.AcNew, impl.AcAdd, impl.AcOpen, impl.AcCrash, 0, 5} {
			wantAct(t, "no disk", d, impl.Act{Kind: kind, C: tickCmd(1), Power: -1}, impl.StDisk, impl.Disk{})
			wantAct(t, "no disk, no power", d, impl.Act{Kind: kind, Keep: []int64{-1}, Torn: -1}, impl.StDisk, impl.Disk{})
			for _, list := range [][]impl.Act{nil, {{Kind: kind}}} {
				if e, codes := impl.StorePlay(d, list); len(codes) != 0 || !sameDisk(e, impl.Disk{}) {
					t.Errorf("no disk: StorePlay answers %s, %v", brief(e), codes)
				}
			}
		}
	}
}

func TestActsOfNoKind(t *testing.T) {
	for _, d := range []impl.Disk{{}, logDisk(""), logDisk("x"), plainDisk(t)} {
		for _, kind := range append([]int64{0, 5, 6, 257, 260}, outsiders...) {
			for _, power := range []int64{-1, 0, 1} {
				wantAct(t, "no kind", d, impl.Act{Kind: kind, C: tickCmd(1), Power: power}, impl.StForm, d)
				wantAct(t, "no kind", d, impl.Act{Kind: kind, Sync: true, Power: power, Torn: 1}, impl.StForm, d)
			}
		}
	}
}

// wantSteps: behind so many steps, told one by one, an act ends for want of power; with all of them it is done.
func wantSteps(t *testing.T, what string, a impl.Act, steps ...impl.Disk) {
	t.Helper()
	last := len(steps) - 1
	for power, d := range steps {
		a.Power = int64(power)
		want := int64(impl.StPower)
		if power == last {
			want = impl.StOk
		}
		wantAct(t, what, steps[0], a, want, d)
	}
	for _, power := range []int64{int64(len(steps)), greatestInt, -1, -2, leastInt} {
		a.Power = power
		wantAct(t, what, steps[0], a, impl.StOk, steps[last])
	}
}

func synced(d impl.Disk) impl.Disk {
	return impl.Disk{Live: d.Live, Safe: d.Live}
}

func more(t *testing.T, d impl.Disk, op impl.DOp) impl.Disk {
	t.Helper()
	e, code := plainDo(d, op)
	if code != impl.DkOk {
		t.Fatalf("%s is not done: %d", brief(op), code)
	}
	return e
}

func TestNewSteps(t *testing.T) {
	for _, d := range []impl.Disk{{}, plainDisk(t)} {
		made := more(t, d, appendOp("log", ""))
		for _, a := range []impl.Act{{Kind: impl.AcNew}, {Kind: impl.AcNew, Sync: true, C: tickCmd(1), Keep: []int64{-1}, Torn: -1}} {
			wantSteps(t, "a new log", a, d, made, synced(made))
		}
	}
	for _, log := range []string{"", "x", logOf(ticks(2)...)} {
		for _, power := range []int64{-1, 0, 1} {
			wantAct(t, "a log that is there", logDisk(log), impl.Act{Kind: impl.AcNew, Power: power}, impl.StForm, logDisk(log))
		}
	}
}

func TestAddSteps(t *testing.T) {
	for _, list := range [][]impl.Cmd{nil, ticks(3), ticks(10), oneOfEach(), ticks(79)} {
		for _, c := range oneOfEach() {
			d := diskOf(t, logDisk(logOf(list...)).Safe, appendOp("z", "x"))
			frame := logFrame(strconv.Itoa(len(list)) + " " + plainText(c))
			added := more(t, d, appendOp("log", frame))
			wantSteps(t, "a command more", impl.Act{Kind: impl.AcAdd, C: c}, d, added)
			wantSteps(t, "a command more, and a sync", impl.Act{Kind: impl.AcAdd, C: c, Sync: true, Keep: []int64{9, -9}, Torn: -7}, d, added, synced(added))
		}
	}
}

func TestAddsThatAreRefused(t *testing.T) {
	good, torn := logDisk(logOf(ticks(3)...)), logDisk(logOf(ticks(3)...)+"\x00")
	full, over := logDisk(logOf(ticks(80)...)), logDisk(logOf(ticks(81)...))
	for _, sync := range []bool{false, true} {
		for _, power := range []int64{-1, 0, 1, 2} {
			add := func(c impl.Cmd) impl.Act { return impl.Act{Kind: impl.AcAdd, C: c, Sync: sync, Power: power} }
			for _, d := range []impl.Disk{good, torn, full, over} {
				wantAct(t, "no command", d, add(impl.Cmd{}), impl.StForm, d)
				wantAct(t, "no command", d, add(tickCmd(0)), impl.StForm, d)
			}
			wantAct(t, "a torn log", torn, add(tickCmd(1)), impl.StTorn, torn)
			wantAct(t, "80 commands", full, add(tickCmd(1)), impl.StFull, full)
			wantAct(t, "81 commands", over, add(tickCmd(1)), impl.StTorn, over)
		}
	}
	for _, c := range badCmds() {
		wantAct(t, "no command", good, impl.Act{Kind: impl.AcAdd, C: c, Power: -1}, impl.StForm, good)
	}
}

func TestOpenSteps(t *testing.T) {
	log := logOf(ticks(2)...)
	for _, good := range []string{"", log, logOf(oneOfEach()...), logOf(ticks(80)...)} {
		d := diskOf(t, []impl.File{{Name: "log", Data: good}, {Name: "log.new", Data: "old"}}, appendOp("z", "x"))
		wantSteps(t, "a good log", impl.Act{Kind: impl.AcOpen, C: tickCmd(1), Sync: true}, d)
	}
	for _, c := range []struct{ log, counts string }{{"x", ""}, {log + "x", log}, {log + noughts(8), log}, {log + log, log}, {logOf(ticks(81)...), logOf(ticks(80)...)}} {
		d := diskOf(t, logDisk(c.log).Safe, appendOp("z", "x"))
		made := more(t, d, appendOp("log.new", c.counts))
		renamed := more(t, synced(made), renameOp("log.new", "log"))
		wantSteps(t, "a torn log", impl.Act{Kind: impl.AcOpen}, d, made, synced(made), renamed, synced(renamed))
		for _, old := range []string{"", "old", c.counts} {
			d := diskOf(t, []impl.File{{Name: "log", Data: c.log}, {Name: "log.new", Data: old}}, appendOp("z", "x"))
			gone := more(t, d, removeOp("log.new"))
			made := more(t, gone, appendOp("log.new", c.counts))
			renamed := more(t, synced(made), renameOp("log.new", "log"))
			wantSteps(t, "a torn log, and a new one", impl.Act{Kind: impl.AcOpen, Keep: []int64{-1}, Torn: -1}, d, gone, made, synced(made), renamed, synced(renamed))
		}
	}
}

func TestCrashSteps(t *testing.T) {
	log := logOf(ticks(2)...)
	frame := logFrame("2 tick 3")
	d := diskOf(t, logDisk(log).Safe, appendOp("log", frame), appendOp("z", "x"))
	for _, power := range []int64{-1, 0, 1, 9} {
		for _, c := range []struct {
			keep []int64
			torn int64
			log  string
		}{{nil, 0, log}, {nil, 9, log}, {[]int64{0}, int64(len(frame)), log + frame}, {[]int64{0}, 1 << 40, log + frame}, {[]int64{0}, 0, log}} {
			wantAct(t, "a good log is left", d, impl.Act{Kind: impl.AcCrash, Keep: c.keep, Torn: c.torn, Power: power}, impl.StOk, logDisk(c.log))
		}
		for _, a := range []impl.Act{{Torn: -1}, {Torn: leastInt, Keep: []int64{0}}, {Keep: []int64{-1}}, {Keep: []int64{2}}, {Keep: []int64{1, 0}}, {Keep: []int64{0, 0}}} {
			a.Kind, a.Power = impl.AcCrash, power
			wantAct(t, "no crash", d, a, impl.StForm, d)
			wantAct(t, "no crash, and no log", impl.Disk{}, a, impl.StForm, impl.Disk{})
		}
	}
	for torn := int64(1); torn < int64(len(frame)); torn++ {
		left := logDisk(log + frame[:torn])
		made := more(t, left, appendOp("log.new", log))
		renamed := more(t, synced(made), renameOp("log.new", "log"))
		crash := impl.Act{Kind: impl.AcCrash, Keep: []int64{0}, Torn: torn}
		for power, want := range []impl.Disk{left, made, synced(made), renamed, synced(renamed), synced(renamed)} {
			crash.Power = int64(power)
			wantAct(t, fmt.Sprint("torn at ", torn), d, crash, wantIf(power < 4, impl.StPower, impl.StOk), want)
		}
		crash.Power = -1
		wantAct(t, fmt.Sprint("torn at ", torn), d, crash, impl.StOk, logDisk(log))
	}
}

// A step that is refused, however many were made ahead of it: the disk is as it was.
func TestStepsThatAreRefused(t *testing.T) {
	files := filesNamed(diskFiles)
	d := impl.Disk{Live: files, Safe: files}
	wantAct(t, "61 files", d, impl.Act{Kind: impl.AcNew, Power: -1}, impl.StFull, d)
	wantAct(t, "61 files", d, impl.Act{Kind: impl.AcNew, Power: 1}, impl.StFull, d)
	wantAct(t, "61 files, no power", d, impl.Act{Kind: impl.AcNew, Power: 0}, impl.StPower, d)
	d = diskOf(t, nil, opsUpTo(diskOps)...)
	wantAct(t, "201 ops", d, impl.Act{Kind: impl.AcNew, Power: -1}, impl.StFull, d)
	add := impl.Act{Kind: impl.AcAdd, C: tickCmd(1), Sync: true, Power: -1}
	d = diskOf(t, logDisk("").Safe, opsUpTo(diskOps)...)
	wantAct(t, "201 ops", d, add, impl.StFull, d)
	d = diskOf(t, logDisk("").Safe, opsUpTo(diskOps-1)...)
	wantAct(t, "200 ops", d, add, impl.StOk, synced(more(t, d, appendOp("log", logOf(tickCmd(1))))))
	frame := logOf(tickCmd(1))
	for size, want := range map[int]int64{diskBytes - len(frame): impl.StOk, diskBytes - len(frame) + 1: impl.StFull, diskBytes: impl.StFull} {
		d := diskOf(t, []impl.File{{Name: "log"}, {Name: "z", Data: noughts(size)}})
		left := d
		if want == impl.StOk {
			left = synced(more(t, d, appendOp("log", frame)))
		}
		wantAct(t, fmt.Sprint(size, " bytes"), d, add, want, left)
	}
	long := logDisk(logOf(frameCmd(noughts(mostData)), frameCmd(noughts(mostData))))
	wantAct(t, "a third long command", long, impl.Act{Kind: impl.AcAdd, C: frameCmd(noughts(mostData)), Power: -1}, impl.StFull, long)
}

func TestOpensThatAreRefused(t *testing.T) {
	files := append(filesNamed(diskFiles-1), impl.File{Name: "log", Data: "torn"})
	d := impl.Disk{Live: files, Safe: files}
	open := impl.Act{Kind: impl.AcOpen, Power: -1}
	wantAct(t, "61 files", d, open, impl.StFull, d)
	e := more(t, d, appendOp("f07", "x"))
	wantAct(t, "61 files behind a crash", e, impl.Act{Kind: impl.AcCrash, Power: -1}, impl.StFull, d)
	wantAct(t, "61 files behind a crash", e, impl.Act{Kind: impl.AcCrash, Keep: []int64{0}, Torn: 1, Power: 1}, impl.StFull, synced(e))
	wantAct(t, "61 files behind a crash, no power", e, impl.Act{Kind: impl.AcCrash}, impl.StPower, d)
	files = append(filesNamed(diskFiles-2), impl.File{Name: "log", Data: "torn"}, impl.File{Name: "log.new", Data: "old"})
	d = impl.Disk{Live: files, Safe: files}
	gone := plainOf(files).with(removeOp("log.new")).with(appendOp("log", "")).with(removeOp("log")).with(appendOp("log", "")).list()
	wantAct(t, "60 files with a new log", d, open, impl.StOk, impl.Disk{Live: gone, Safe: gone})
	for ops, want := range map[int]int64{diskOps: impl.StFull, diskOps - 1: impl.StFull, diskOps - 2: impl.StOk} {
		// Both are there, so that what is refused at 199 ops comes behind the remove.
		d := diskOf(t, []impl.File{{Name: "log", Data: "torn"}, {Name: "log.new", Data: "old"}}, opsUpTo(ops)...)
		left := d
		if want == impl.StOk {
			l := plainOf(d.Live).with(renameOp("log.new", "log")).list()
			l[1].Data = ""
			left = impl.Disk{Live: l, Safe: l}
		}
		wantAct(t, fmt.Sprint(ops, " ops"), d, open, want, left)
	}
	log := logOf(ticks(2)...)
	for size, want := range map[int]int64{diskBytes - 2*len(log) - 1: impl.StOk, diskBytes - 2*len(log): impl.StFull} {
		d := diskOf(t, []impl.File{{Name: "log", Data: log + "x"}, {Name: "z", Data: noughts(size)}})
		left := d
		if want == impl.StOk {
			l := []impl.File{{Name: "log", Data: log}, {Name: "z", Data: noughts(size)}}
			left = impl.Disk{Live: l, Safe: l}
		}
		wantAct(t, fmt.Sprint(size, " bytes"), d, open, want, left)
	}
}

// plainLog gives the commands that count of a log, and how long they are.
func plainLog(log string) ([]impl.Cmd, int) {
	var list []impl.Cmd
	at := 0
	for len(list) < mostCmds && len(log)-at >= 8 {
		size := int(binary.BigEndian.Uint32([]byte(log[at:])))
		if size > mostFrame || size > len(log)-at-8 || logFrame(log[at+8:at+8+size]) != log[at:at+8+size] {
			break
		}
		number, text, _ := strings.Cut(log[at+8:at+8+size], " ")
		c, ok := impl.ReadCmd(text)
		if !ok || number != strconv.Itoa(len(list)) {
			break
		}
		list = append(list, c)
		at += 8 + size
	}
	return list, at
}

// A plainStore makes steps as long as it has power and none is refused.
type plainStore struct {
	d    impl.Disk
	left int64
	code int64
}

func (s *plainStore) starts() bool {
	if s.code == impl.StOk && s.left == 0 {
		s.code = impl.StPower
	}
	s.left = max(s.left-1, -1)
	return s.code == impl.StOk
}

func (s *plainStore) do(op impl.DOp) {
	if !s.starts() {
		return
	}
	e, code := plainDo(s.d, op)
	s.d = e
	if code != impl.DkOk {
		s.code = impl.StFull
	}
}

func (s *plainStore) sync() {
	if s.starts() {
		s.d = synced(s.d)
	}
}

// plainStoreDo does an act on a disk that is right.
func plainStoreDo(d impl.Disk, a impl.Act) (impl.Disk, int64) {
	if a.Kind < 1 || a.Kind > 4 {
		return d, impl.StForm
	}
	if a.Kind == impl.AcCrash {
		rises := a.Torn >= 0
		for i, at := range a.Keep {
			rises = rises && at >= 0 && at < int64(len(d.Ops)) && (i == 0 || a.Keep[i-1] < at)
		}
		if !rises {
			return d, impl.StForm
		}
		left, ok := plainCrash(d, a.Keep, a.Torn)
		if !ok {
			return d, impl.StForm
		}
		d = left
	}
	files := plainOf(d.Live)
	log, there := files["log"]
	_, newThere := files["log.new"]
	list, counts := plainLog(log)
	s := &plainStore{d: d, left: max(a.Power, -1)}
	switch {
	case a.Kind == impl.AcNew && there:
		return d, impl.StForm
	case a.Kind == impl.AcNew:
		s.do(appendOp("log", ""))
		s.sync()
	case !there:
		return d, impl.StNone
	case a.Kind == impl.AcAdd && !impl.CmdOk(a.C):
		return d, impl.StForm
	case a.Kind == impl.AcAdd && counts < len(log):
		return d, impl.StTorn
	case a.Kind == impl.AcAdd && len(list) == mostCmds:
		return d, impl.StFull
	case a.Kind == impl.AcAdd:
		s.do(appendOp("log", logFrame(strconv.Itoa(len(list))+" "+plainText(a.C))))
		if a.Sync {
			s.sync()
		}
	case counts < len(log):
		if newThere {
			s.do(removeOp("log.new"))
		}
		s.do(appendOp("log.new", log[:counts]))
		s.sync()
		s.do(renameOp("log.new", "log"))
		s.sync()
	}
	if s.code == impl.StFull {
		return d, impl.StFull
	}
	return s.d, s.code
}

// A journalPlayer makes acts on disks.
type journalPlayer struct {
	diskPlayer
}

// keep gives some of the places of so many ops.
func (m *journalPlayer) keep(many int) []int64 {
	var out []int64
	for at := range many {
		if m.below(3) > 0 {
			out = append(out, int64(at))
		}
	}
	return out
}

func (m *journalPlayer) act(ops int) impl.Act {
	a := impl.Act{Kind: 1 + m.below(4), C: someCmd(&m.maker), Sync: m.below(3) == 0, Power: m.below(14) - 7, Keep: m.keep(ops), Torn: m.below(30)}
	switch m.below(12) {
	case 0:
		a.C = impl.Cmd{Kind: m.below(9)}
	case 1:
		a.Torn = -1
	case 2:
		a.Keep = []int64{m.below(20) - 2, m.below(20)}
	case 3:
		a.Kind = m.below(7)
	case 4, 5, 6, 7:
		a.Kind = impl.AcAdd
	}
	return a
}

// spoilt gives a disk that somebody else wrote on.
func (m *journalPlayer) spoilt(d impl.Disk) impl.Disk {
	list, _ := plainLog(plainOf(d.Live)["log"])
	op := m.op()
	switch m.below(6) {
	case 0:
		op = appendOp("log", logFrame(strconv.Itoa(len(list)+int(m.below(3)))+" tick 1"))
	case 1:
		op = appendOp("log.new", logFrame("0 tick 1"))
	case 2:
		op = removeOp("log")
	}
	d, _ = plainDo(d, op)
	return d
}

func TestStoreDoAgainstPlainSteps(t *testing.T) {
	m := journalPlayer{diskPlayer{maker{state: 133}}}
	seen := map[[2]int64]int{}
	for round := range 150 {
		var d impl.Disk
		for i := range 60 {
			a := m.act(len(d.Ops))
			want, wantCode := plainStoreDo(d, a)
			e, code := impl.StoreDo(d, a)
			if code != wantCode || !sameDisk(e, want) {
				t.Fatalf("round %d, act %d, %s on %s: %d, %s, want %d, %s", round, i, brief(a), brief(d), code, brief(e), wantCode, brief(want))
			}
			list, code := impl.StoreView(want)
			wantList, _ := plainLog(plainOf(want.Live)["log"])
			_, there := plainOf(want.Live)["log"]
			if !slices.EqualFunc(list, wantList, sameCmd) || code != wantIf(there, impl.StOk, impl.StNone) {
				t.Fatalf("round %d, act %d: %d, %s, want %s", round, i, code, brief(list), brief(wantList))
			}
			seen[[2]int64{a.Kind, wantCode}]++
			d = e
			if m.below(8) == 0 {
				d = m.spoilt(d)
			}
		}
	}
	for _, want := range [][2]int64{{1, 0}, {1, 3}, {1, 5}, {2, 0}, {2, 2}, {2, 3}, {2, 5}, {2, 6}, {3, 0}, {3, 2}, {3, 5}, {4, 0}, {4, 2}, {4, 3}, {4, 5}} {
		if seen[want] < 10 {
			t.Errorf("act %d and code %d came %d times", want[0], want[1], seen[want])
		}
	}
}

func TestStorePlay(t *testing.T) {
	m := journalPlayer{diskPlayer{maker{state: 134}}}
	for round := range 60 {
		d := m.disk(10, 5)
		var list []impl.Act
		want, codes := d, []int64(nil)
		for range m.below(40) {
			a := m.act(len(want.Ops))
			var code int64
			want, code = plainStoreDo(want, a)
			list, codes = append(list, a), append(codes, code)
		}
		e, got := impl.StorePlay(d, list)
		if !slices.Equal(got, codes) || !sameDisk(e, want) {
			t.Fatalf("round %d: %v, want %v, %s, want %s", round, got, codes, brief(e), brief(want))
		}
	}
	d := plainDisk(t)
	if e, codes := impl.StorePlay(d, nil); len(codes) != 0 || !sameDisk(e, d) {
		t.Errorf("no acts: %v, %s", codes, brief(e))
	}
}

func TestRecovered(t *testing.T) {
	e := plainEnd(7, impl.KdVxlan)
	list := append(roadTo(e, 100, plainFrame(1, 2, 2054, noughts(100))), macCmd(9, 8), tickCmd(5))
	_, played := impl.Play(list)
	if len(played[len(list)-3].Out) < 2 || played[len(list)-2].Code != impl.GwId {
		t.Fatalf("the test's commands send nothing: %s", brief(played))
	}
	acts := []impl.Act{{Kind: impl.AcNew, Power: -1}}
	for _, c := range list {
		acts = append(acts, impl.Act{Kind: impl.AcAdd, C: c, Power: -1})
	}
	d, _ := impl.StorePlay(impl.Disk{}, acts)
	wantView(t, "commands that are played", d, list)
	wantView(t, "behind a loss of power", impl.Disk{Live: logDisk("").Live, Safe: logDisk("").Live}, nil)
}

// A teller knows what a journal was told: its commands, and how many of them it had at the last sync.
type teller struct {
	journalPlayer
	list   []impl.Cmd
	synced int
}

// wantKept: behind a loss of power a journal has its first commands, none less than at the last sync; these are given.
func (m *teller) wantKept(t *testing.T, what string, d impl.Disk) []impl.Cmd {
	t.Helper()
	got, code := impl.StoreView(d)
	lost := code == impl.StNone && m.synced == 0
	if code != impl.StOk && !lost || len(got) < m.synced || len(got) > len(m.list) || !slices.EqualFunc(got, m.list[:len(got)], sameCmd) {
		t.Fatalf("%s: code %d, %s, want %d or more of %s", what, code, brief(got), m.synced, brief(m.list))
	}
	if lost {
		return got
	}
	g, answers, code := impl.Recovered(d)
	wantGate, wantAnswers := impl.Play(m.list[:len(got)])
	if code != impl.StOk || !sameGate(g, wantGate) || !slices.EqualFunc(answers, wantAnswers, sameAnswer) {
		t.Fatalf("%s: what is recovered is %d, %s, %s", what, code, brief(g), brief(answers))
	}
	return got
}

// keeps gives lists of places of so many ops: all there are, or some of them, when these are many.
func (m *teller) keeps(ops int) [][]int64 {
	var out [][]int64
	if ops <= 5 {
		for n := range 1 << ops {
			out = append(out, subset(n))
		}
		return out
	}
	for range 24 {
		out = append(out, m.keep(ops))
	}
	for first := range ops + 1 {
		out = append(out, asPicks(inOrder(first)))
	}
	return out
}

// tornAt gives sizes up to that of the last op that is kept.
func (m *teller) tornAt(d impl.Disk, keep []int64) []int64 {
	out := []int64{0, 1, 4, 8, 9, greatestInt}
	if len(keep) > 0 {
		size := int64(len(d.Ops[keep[len(keep)-1]].Data))
		out = append(out, size, max(size-1, 0), m.below(size+1))
	}
	return out
}

// wantNothingLost: power is lost on this disk, with any of its ops kept; and again while that is mended.
func (m *teller) wantNothingLost(t *testing.T, what string, d impl.Disk) {
	t.Helper()
	for _, keep := range m.keeps(len(d.Ops)) {
		for _, torn := range m.tornAt(d, keep) {
			left, ok := impl.Crash(d, keep, torn)
			if !ok {
				t.Fatalf("%s: no crash with %v, %d", what, keep, torn)
			}
			what := fmt.Sprintf("%s, %v kept, torn at %d", what, keep, torn)
			got := m.wantKept(t, what, left)
			if m.below(40) == 0 {
				m.wantMended(t, what, left, got)
			}
		}
	}
}

func (m *teller) wantMended(t *testing.T, what string, left impl.Disk, list []impl.Cmd) {
	t.Helper()
	same := &teller{journalPlayer: m.journalPlayer, list: list, synced: len(list)}
	for power := range int64(7) {
		mended, _ := impl.StoreDo(left, impl.Act{Kind: impl.AcOpen, Power: power})
		for _, keep := range m.keeps(len(mended.Ops)) {
			for _, torn := range []int64{0, 1, 9, greatestInt} {
				again, _ := impl.Crash(mended, keep, torn)
				same.wantKept(t, fmt.Sprintf("%s, mended with power %d, %v kept, torn at %d", what, power, keep, torn), again)
			}
		}
	}
}

// told does an act, and keeps in mind what the journal was told by it.
func (m *teller) told(t *testing.T, d impl.Disk, a impl.Act) impl.Disk {
	t.Helper()
	e, code := impl.StoreDo(d, a)
	done := code == impl.StOk || code == impl.StPower && a.Power > 0
	switch {
	case a.Kind == impl.AcAdd && done:
		m.list = append(slices.Clip(m.list), a.C)
		if a.Sync && code == impl.StOk {
			m.synced = len(m.list)
		}
	case a.Kind == impl.AcCrash && code != impl.StForm:
		m.list = m.wantKept(t, "an act that is a crash", e)
		m.synced = len(m.list)
	}
	return e
}

func (m *teller) someAct(ops int) impl.Act {
	a := impl.Act{Kind: impl.AcAdd, C: someCmd(&m.maker), Sync: m.below(4) == 0, Power: m.below(30)}
	switch m.below(8) {
	case 0:
		a.Kind = impl.AcOpen
	case 1:
		a.Kind = impl.AcNew
	case 2:
		a.Kind, a.Keep, a.Torn = impl.AcCrash, m.keep(ops), m.below(40)
	}
	return a
}

// Promise 12: power is lost between any two steps of some acts.
func TestLossOfPowerBetweenSteps(t *testing.T) {
	for round := range 12 {
		m := &teller{journalPlayer: journalPlayer{diskPlayer{maker{state: 135 + uint64(round)}}}}
		d := m.told(t, impl.Disk{}, impl.Act{Kind: impl.AcNew, Power: m.below(3)})
		for i := range 14 {
			a := m.someAct(len(d.Ops))
			for power := range int64(6) {
				other := &teller{journalPlayer: m.journalPlayer, list: m.list, synced: m.synced}
				short := a
				short.Power = power
				e := other.told(t, d, short)
				other.wantNothingLost(t, fmt.Sprintf("round %d, act %d, kind %d with power %d", round, i, a.Kind, power), e)
			}
			d = m.told(t, d, a)
		}
	}
}

// Promise 12, of a log that lies beside other files, and of all places where it may be torn.
func TestLogTornAtEachPlace(t *testing.T) {
	list := ticks(5)
	d, _ := impl.StorePlay(impl.Disk{}, []impl.Act{{Kind: impl.AcNew, Power: -1}, {Kind: impl.AcAdd, C: list[0], Power: -1}, {Kind: impl.AcAdd, C: list[1], Sync: true, Power: -1}})
	d, _ = impl.StorePlay(more(t, d, appendOp("a", "x")), []impl.Act{{Kind: impl.AcAdd, C: list[2], Power: -1}, {Kind: impl.AcAdd, C: list[3], Power: -1}, {Kind: impl.AcAdd, C: list[4], Power: -1}})
	for _, c := range []struct {
		keep  []int64
		whole int
		torn  int
	}{{nil, 2, 2}, {[]int64{0}, 2, 2}, {[]int64{1}, 3, 2}, {[]int64{2}, 2, 2}, {[]int64{3}, 2, 2}, {[]int64{1, 2}, 4, 3}, {[]int64{1, 3}, 3, 3}, {[]int64{2, 3}, 2, 2}, {[]int64{0, 1, 2, 3}, 5, 4}, {[]int64{1, 2, 3}, 5, 4}} {
		size := len(logFrame("2 tick 3"))
		for torn := range size + 2 {
			want := list[:c.torn]
			if torn >= size {
				want = list[:c.whole]
			}
			e, code := impl.StoreDo(d, impl.Act{Kind: impl.AcCrash, Keep: c.keep, Torn: int64(torn), Power: -1})
			if code != impl.StOk || plainOf(e.Live)["log"] != logOf(want...) || len(e.Ops) != 0 {
				t.Errorf("%v, torn at %d: %d, %s", c.keep, torn, code, brief(e))
			}
			wantView(t, fmt.Sprintf("%v, torn at %d", c.keep, torn), e, want)
		}
	}
}

// Promise 15, of journals.
func TestJournalsStayAndAreNewMemory(t *testing.T) {
	m := journalPlayer{diskPlayer{maker{state: 170}}}
	for round := range 120 {
		var list []impl.Cmd
		for range 4 {
			list = append(list, someCmd(&m.maker))
		}
		log := logOf(list...) + m.text(2*int(m.below(2)))
		d, room := roomyDisk(diskOf(t, []impl.File{{Name: strings.Clone("log"), Data: log}, {Name: "log.new", Data: "old"}}, appendOp("zz", "some"), appendOp("zz", m.text(9))))
		plain, keptRoom := copyOfDisk(d), copyOfDisk(room)
		a := m.act(2)
		a.Keep = append(make([]int64, 0, 9), 0, 1)
		a.C.E.Opts = append(a.C.E.Opts, impl.Opt{Class: 5, Data: "room"})[:len(a.C.E.Opts)]
		kept := cloneCmds([]impl.Cmd{a.C})[0]
		acts := append(make([]impl.Act, 0, 5), a, impl.Act{Kind: impl.AcOpen, Power: -1}, impl.Act{Kind: impl.AcAdd, C: a.C})
		given := append(diskTexts(d), cmdTexts([]impl.Cmd{a.C})...)
		for range 2 {
			e, code := impl.StoreDo(d, a)
			want, wantCode := plainStoreDo(plain, a)
			if code != wantCode || !sameDisk(e, want) {
				t.Fatalf("round %d: %d, %s, want %d, %s", round, code, brief(e), wantCode, brief(want))
			}
			none, _ := impl.StorePlay(d, nil)
			f, codes := impl.StorePlay(d, acts)
			view, _ := impl.StoreView(d)
			g, answers, _ := impl.Recovered(d)
			wantApart(t, "StoreDo", diskTexts(e), given)
			wantApart(t, "StoreDo, lists of one answer", diskTexts(impl.Disk{Live: e.Live}), diskTexts(impl.Disk{Safe: e.Safe, Ops: e.Ops}))
			wantApart(t, "StorePlay", append(diskTexts(f), diskTexts(none)...), given)
			wantApart(t, "StoreView", cmdTexts(view), given)
			wantApart(t, "Recovered", append(gateTexts(g), answerTexts(answers)...), given)
			for i := range view {
				spoilOpts(view[i].E.Opts)
			}
			clear(view[:cap(view)])
			clear(codes[:cap(codes)])
			spoilDisk(e)
			spoilDisk(f)
			spoilDisk(none)
			spoilAll(g, answers)
			if !sameDisk(room, keptRoom) || !sameCmd(a.C, kept) || a.C.E.Opts[:len(kept.E.Opts)+1][len(kept.E.Opts)].Data != "room" || !slices.Equal(a.Keep[:9], []int64{0, 1, 0, 0, 0, 0, 0, 0, 0}) || acts[:4][3].Kind != 0 {
				t.Fatalf("round %d: what was given is another now", round)
			}
		}
	}
}

func TestFramesAreNewMemory(t *testing.T) {
	for _, s := range []string{"abc", noughts(1000), "0 tick 1"} {
		s = strings.Clone(s)
		frame := impl.FrameOf(s)
		wantApart(t, "FrameOf", []string{frame}, []string{s})
		both := frame + frame
		l, _ := impl.TakeFrames(both)
		wantApart(t, "TakeFrames", l, []string{both, s})
		wantApart(t, "frames of one answer", l[:1], l[1:])
		clear(l[:cap(l)])
		wantFrames(t, "taken again", both, []string{s, s}, len(both))
	}
}

package tests

import (
	"fmt"
	"slices"
	"sync"
	"testing"

	"loop.example/g00675/impl"
)

const allCodes = 15

// A codeCase is a command, and the code of its answer behind the commands of aheadOfCodes.
type codeCase struct {
	code int64
	cmd  impl.Cmd
}

// aheadOfCodes gives commands that are all done: sixteen Ends, and a rule for two of them.
func aheadOfCodes() []impl.Cmd {
	list := receivers()
	for id := int64(20); id < 32; id++ {
		e := endAt(id)
		e.Df = true
		list = append(list, endCmd(e))
	}
	return append(list, macCmd(1, 1), macCmd(3, 20))
}

// codeCases gives a command for each code; none of them makes another one be answered otherwise.
func codeCases() []codeCase {
	frame := plainFrame(1, 2, 2054, "hi")
	far := comes(47, "")
	far.Src = 77
	return []codeCase{
		{impl.GwOk, wires(tunnelsOf(impl.KdGre, 9, frame)[0])[0]},
		{impl.GwForm, impl.Cmd{}},
		{impl.GwId, macCmd(1, 50)},
		{impl.GwFull, endCmd(endAt(40))},
		{impl.GwFrame, frameCmd("")},
		{impl.GwNone, frameCmd(plainFrame(2, 2, 2054, ""))},
		{impl.GwMtu, frameCmd(plainFrame(3, 2, 2054, noughts(1500)))},
		{impl.GwIp, wireCmd("")},
		{impl.GwTo, wires(far)[0]},
		{impl.GwWait, wires(pieceOf(1, 5, false, "abc"))[0]},
		{impl.GwBuf, wires(pieceOf(1, 4, false, "abc"))[0]},
		{impl.GwPort, wires(comes(6, ""))[0]},
		{impl.GwTun, wires(comes(47, ""))[0]},
		{impl.GwNet, wires(tunnelsOf(impl.KdGre, 8, frame)[0])[0]},
		{impl.GwInner, wires(tunnelsOf(impl.KdGre, 9, "no frame")[0])[0]},
	}
}

func wantNumbers(t *testing.T, what string, got []int64, want []int64) {
	t.Helper()
	if !slices.Equal(got, want) {
		t.Errorf("%s: got %v, want %v", what, got, want)
	}
}

// wantCounts: what is counted of commands, whose uses and bytes that are sent are these.
func wantCounts(t *testing.T, what string, list []impl.Cmd, counts []int64, uses []int64, bytes int64) {
	t.Helper()
	wantNumbers(t, what+": counts", impl.CountsOf(list), counts)
	wantNumbers(t, what+": uses", impl.UsesOf(list), uses)
	wantNumber(t, what+": bytes", impl.BytesSent(list), bytes)
}

// countsOf gives all counts, of which only some are not 0.
func countsOf(some map[int64]int64) []int64 {
	counts := make([]int64, allCodes)
	for code, n := range some {
		counts[code] = n
	}
	return counts
}

func TestCountsOfNone(t *testing.T) {
	for _, list := range [][]impl.Cmd{nil, {}} {
		wantCounts(t, "no commands", list, countsOf(nil), nil, 0)
	}
}

func TestCountsOfEachCode(t *testing.T) {
	ahead := aheadOfCodes()
	unused := make([]int64, 16)
	wantCounts(t, "ahead", ahead, countsOf(map[int64]int64{0: 18}), unused, 0)
	for _, c := range codeCases() {
		list, want := slices.Clone(ahead), countsOf(map[int64]int64{0: 18})
		if c.code == impl.GwBuf {
			// It is one piece more of what waits already.
			list = append(list, codeCases()[impl.GwWait].cmd)
			want[impl.GwWait]++
		}
		want[c.code]++
		wantCounts(t, fmt.Sprint("code ", c.code), append(list, c.cmd), want, unused, 0)
	}
}

func TestCountsOfAllCodes(t *testing.T) {
	list, want := aheadOfCodes(), countsOf(map[int64]int64{0: 18})
	for _, c := range codeCases()[1:] {
		times := 1 + c.code%7
		list = append(list, slices.Repeat([]impl.Cmd{c.cmd}, int(times))...)
		want[c.code] += times
	}
	wantCounts(t, "all codes", list, want, make([]int64, 16), 0)
	list = append(list, codeCases()[0].cmd)
	want[0]++
	wantCounts(t, "all codes, and a frame that comes", list, want, make([]int64, 16), 0)
}

func TestCountsOfEightyCommands(t *testing.T) {
	frame := frameCmd(plainFrame(1, 2, 2054, "hi"))
	list := append([]impl.Cmd{endCmd(plainEnd(7, impl.KdGre)), macCmd(1, 7)}, slices.Repeat([]impl.Cmd{frame}, 78)...)
	wantCounts(t, "79 commands", list[:79], countsOf(map[int64]int64{0: 79}), []int64{77}, 77*(20+12+16))
	wantCounts(t, "80 commands", list, countsOf(map[int64]int64{0: 80}), []int64{78}, 78*(20+12+16))
	for _, more := range []int{1, 2, 500} {
		wantCounts(t, fmt.Sprint(more, " too many"), append(slices.Clone(list), slices.Repeat([]impl.Cmd{frame}, more)...), nil, nil, 0)
	}
	for code, c := range codeCases() {
		wantCounts(t, fmt.Sprint("81 commands of code ", code), slices.Repeat([]impl.Cmd{c.cmd}, 81), nil, nil, 0)
	}
	wantCounts(t, "80 that are none", make([]impl.Cmd, 80), countsOf(map[int64]int64{impl.GwForm: 80}), nil, 0)
	wantCounts(t, "81 that are none", make([]impl.Cmd, 81), nil, nil, 0)
}

func TestCountsOfWrongCommands(t *testing.T) {
	for _, c := range badCmds() {
		wantCounts(t, brief(c), []impl.Cmd{c}, countsOf(map[int64]int64{impl.GwForm: 1}), nil, 0)
		wantCounts(t, brief(c), []impl.Cmd{endCmd(endAt(5)), c, c}, countsOf(map[int64]int64{0: 1, impl.GwForm: 2}), []int64{0}, 0)
	}
}

// Uses are in the order of the Ends, which is not that of their Ids, and only of frames that were sent.
func TestUsesOf(t *testing.T) {
	tight := endAt(2)
	tight.Df = true
	list := []impl.Cmd{endCmd(endAt(99)), endCmd(tight), endCmd(endAt(50)), endCmd(endAt(1)), macCmd(1, 99), macCmd(2, 2), netCmd(0x0a000000, 8, 50), ternCmd(4, 255, 0, 1)}
	wantNumbers(t, "no frames", impl.UsesOf(list), []int64{0, 0, 0, 0})
	byKey, tooLong := frameCmd(plainFrame(1, 9, 2054, "")), frameCmd(plainFrame(2, 9, 2054, noughts(1500)))
	byPrefix, byMask := frameCmd(plainFrame(9, 9, 2048, impl.IpBytes(impl.Ip{Dst: 0x0a010203}))), frameCmd(plainFrame(9, 4, 2054, ""))
	for _, r := range []struct {
		what string
		more []impl.Cmd
		want []int64
	}{
		{"a frame that is sent", []impl.Cmd{byKey}, []int64{1, 0, 0, 0}},
		{"a frame that is refused", []impl.Cmd{tooLong}, []int64{0, 0, 0, 0}},
		{"a frame to no End", []impl.Cmd{frameCmd(plainFrame(9, 9, 2054, ""))}, []int64{0, 0, 0, 0}},
		{"no frame", []impl.Cmd{frameCmd(""), frameCmd("x")}, []int64{0, 0, 0, 0}},
		{"one of each", []impl.Cmd{byMask, tooLong, byPrefix, byKey}, []int64{1, 0, 1, 1}},
		{"some more", []impl.Cmd{byMask, byMask, byMask, byKey, byPrefix, byPrefix, frameCmd(plainFrame(2, 4, 2054, ""))}, []int64{1, 1, 2, 3}},
		{"other commands", []impl.Cmd{byKey, tickCmd(1), mtuCmd(68), {}, byKey, endCmd(endAt(99)), macCmd(1, 1), byKey}, []int64{2, 0, 0, 1}},
		{"an End that comes later", []impl.Cmd{byKey, endCmd(endAt(3)), macCmd(1, 3), byKey, byKey}, []int64{1, 0, 0, 0, 2}},
		{"a frame in pieces", []impl.Cmd{mtuCmd(68), frameCmd(plainFrame(1, 9, 2054, noughts(1500)))}, []int64{1, 0, 0, 0}},
		{"a frame that may not be in pieces", []impl.Cmd{mtuCmd(68), frameCmd(plainFrame(2, 9, 2054, noughts(18))), frameCmd(plainFrame(2, 9, 2054, noughts(19)))}, []int64{0, 1, 0, 0}},
	} {
		wantNumbers(t, r.what, impl.UsesOf(append(slices.Clone(list), r.more...)), r.want)
	}
}

// What comes for an End, and comes out with its Id, is no use of it.
func TestWhatComesIsNoUse(t *testing.T) {
	list := receivers()
	for _, kind := range allKinds {
		list = append(list, wires(tunnelsOf(kind, 9, plainFrame(1, 2, 2054, "hi"))...)...)
	}
	wantCounts(t, "what comes", list, countsOf(map[int64]int64{0: 12}), []int64{0, 0, 0, 0}, 0)
	list = append(list, macCmd(1, 3), frameCmd(plainFrame(1, 2, 2054, "hi")))
	wantCounts(t, "and what goes", list, countsOf(map[int64]int64{0: 14}), []int64{0, 0, 1, 0}, 20+12+16)
}

func TestBytesSent(t *testing.T) {
	for kind, ahead := range map[int64]int64{impl.KdVxlan: 20 + 8 + 8, impl.KdGeneve: 20 + 8 + 8, impl.KdGre: 20 + 12, impl.KdMpls: 20 + 8 + 8} {
		e := plainEnd(7, kind)
		for _, size := range []int64{0, 1, 2, 100, 1400} {
			s := plainFrame(1, 2, 2054, noughts(int(size)))
			wantNumber(t, fmt.Sprintf("%d bytes by kind %d", size, kind), impl.BytesSent(roadTo(e, 1500, s)), ahead+14+size)
			wantNumber(t, fmt.Sprintf("twice %d bytes by kind %d", size, kind), impl.BytesSent(roadTo(e, 1500, s, "x", s)), 2*(ahead+14+size))
			// Each piece has 48 bytes of what is behind the head, and a head of 20.
			inner := ahead - 20 + 14 + size
			wantNumber(t, fmt.Sprintf("%d bytes by kind %d in pieces", size, kind), impl.BytesSent(roadTo(e, 68, s)), inner+20*((inner+47)/48))
		}
	}
}

// plainCounts counts what plain gates answer.
func plainCounts(list []impl.Cmd) ([]int64, []int64, int64) {
	plain := plainGate{impl.Gate{Mtu: 1500}}
	counts, byId, bytes := make([]int64, allCodes), map[int64]int64{}, int64(0)
	for _, c := range list {
		a := plain.play(c)
		counts[a.Code]++
		for _, s := range a.Out {
			bytes += int64(len(s))
		}
		if len(a.Out) > 0 {
			byId[a.Id]++
		}
	}
	var uses []int64
	for _, e := range plain.gate.Ends {
		uses = append(uses, byId[e.Id])
	}
	return counts, uses, bytes
}

func TestCountsAgainstPlainGates(t *testing.T) {
	m := player{maker: maker{state: 131}}
	used, seen := 0, make([]int64, allCodes)
	for round := range 300 {
		list := m.list(int(m.one(1, 20, 60, 79, 80)))
		counts, uses, bytes := plainCounts(list)
		wantCounts(t, fmt.Sprint("round ", round), list, counts, uses, bytes)
		for _, n := range uses {
			if n > 0 {
				used++
			}
		}
		for code, n := range counts {
			seen[code] += n
		}
	}
	for code, n := range seen {
		if n < 20 && code != impl.GwFull {
			t.Errorf("code %d came %d times", code, n)
		}
	}
	if used < 200 {
		t.Errorf("only %d ends were used", used)
	}
}

// wantNoLess: of the numbers ahead none is less now.
func wantNoLess(t *testing.T, what string, before []int64, now []int64) {
	t.Helper()
	if len(now) < len(before) {
		t.Fatalf("%s: %v, and %v with one command more", what, before, now)
	}
	for i, n := range before {
		if now[i] < n {
			t.Fatalf("%s: %v, and %v with one command more", what, before, now)
		}
	}
}

func sumOf(l []int64) int64 {
	sum := int64(0)
	for _, n := range l {
		sum += n
	}
	return sum
}

// Promise 13: there are as many answers as commands; with commands more no count is less, and just one is more.
func TestWithMoreCommandsNoCountIsLess(t *testing.T) {
	m := player{maker: maker{state: 132}}
	for round := range 40 {
		list := m.list(80)
		counts, uses, bytes := impl.CountsOf(nil), impl.UsesOf(nil), impl.BytesSent(nil)
		for size := 1; size <= len(list); size++ {
			what := fmt.Sprintf("round %d, %d commands", round, size)
			_, answers := impl.Play(list[:size])
			nowCounts, nowUses, nowBytes := impl.CountsOf(list[:size]), impl.UsesOf(list[:size]), impl.BytesSent(list[:size])
			wantNumber(t, what+": answers", int64(len(answers)), int64(size))
			wantNumber(t, what+": counts", sumOf(nowCounts), int64(size))
			wantNumber(t, what+": counts", int64(len(nowCounts)), allCodes)
			wantNoLess(t, what, counts, nowCounts)
			wantNoLess(t, what, uses, nowUses)
			wantNoLess(t, what, []int64{bytes}, []int64{nowBytes})
			counts[answers[size-1].Code]++
			wantNumbers(t, what, nowCounts, counts)
			uses, bytes = nowUses, nowBytes
		}
	}
}

// Promise 15, of counts: nothing is written into what is given nor behind it, and answers are new memory.
func TestCountsStayAndAreNewMemory(t *testing.T) {
	m := player{maker: maker{state: 133}}
	for round := range 40 {
		room := cloneCmds(m.list(80))
		putOptRoom(room)
		list, kept := room[:60], cloneCmds(room)
		counts, uses, bytes := plainCounts(kept[:60])
		for range 3 {
			gotCounts, gotUses := impl.CountsOf(list), impl.UsesOf(list)
			wantCounts(t, fmt.Sprint("round ", round), list, counts, uses, bytes)
			for _, l := range [][]int64{gotCounts, gotUses} {
				l = l[:cap(l)]
				for i := range l {
					l[i] = -9
				}
			}
		}
		if !slices.EqualFunc(room, kept, sameCmd) {
			t.Fatalf("round %d: the commands are others now", round)
		}
		wantOptRoom(t, fmt.Sprint("round ", round), room)
	}
	clear(impl.CountsOf(nil)[:allCodes])
	wantNumbers(t, "no commands", impl.CountsOf(nil), countsOf(nil))
}

// Promise 15: one list, by many callers at once.
func TestManyCountsAtOnce(t *testing.T) {
	m := player{maker: maker{state: 134}}
	list := m.list(80)
	counts, uses, bytes := plainCounts(list)
	var callers sync.WaitGroup
	for range 8 {
		callers.Go(func() {
			for range 20 {
				wantCounts(t, "at once", list, counts, uses, bytes)
			}
		})
	}
	callers.Wait()
}

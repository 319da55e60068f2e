package tests

import (
	"fmt"
	"strings"
	"testing"

	"loop.example/g00675/impl"
)

const (
	tooLongSaid = "too long\n"

	// What is sent for a frame from 2 to 1 with "hi" in it, by the Ends of twoEnds, and that turned round.
	hiFrame  = "0000000000010000000000020806" + "6869"
	hiSent   = "4500003000000000402f6a8c" + "01020304" + "05060708" + "30006558" + "00000009" + "00000000" + hiFrame
	gateAt   = "mtu 1500 now 0 next 0 ends 0 rules 0 waits 0"
	noCounts = "0 0 0 0 0 0 0 0 0 0 0 0 0 0 0"
)

// What makes a gateway with two Ends, each the mirror of the other one. What one of them sent comes, turned round, to itself, and as it was to the other one.
var twoEnds = []string{"end 1 gre 1.2.3.4 5.6.7.8 9", "end 2 gre 5.6.7.8 1.2.3.4 9", "mac 00:00:00:00:00:01 1", "mac 00:00:00:00:00:02 2"}

// A said is a line and what is said to it; "" is nothing.
type said struct {
	line string
	want string
}

func linesOf(l []string) string {
	out := ""
	for _, s := range l {
		out += s + "\n"
	}
	return out
}

// wantSaid: a script of these lines, behind some that are all done, says this.
func wantSaid(t *testing.T, ahead []string, list ...said) {
	t.Helper()
	text, want := linesOf(ahead), strings.Repeat("ok 0 0\n", len(ahead))
	for _, s := range list {
		text += s.line + "\n"
		if s.want != "" {
			want += s.want + "\n"
		}
	}
	wantScript(t, text, want)
}

func wantScript(t *testing.T, text string, want string) {
	t.Helper()
	if got := impl.RunScript(text); got != want {
		t.Errorf("%s says %s, want %s", brief(text), brief(got), brief(want))
	}
}

func TestScriptNumbers(t *testing.T) {
	wantNumber(t, "MaxScript", impl.MaxScript, 40)
	wantNumber(t, "MaxText", impl.MaxText, 6000)
}

func TestScriptOfNothing(t *testing.T) {
	for _, text := range []string{"", "\n", "\n\n", " \n", "     \n", "\n \n  \n\n", strings.Repeat("\n", 40), strings.Repeat(" \n", 40)} {
		wantScript(t, text, "")
	}
}

func TestScriptOfManyLines(t *testing.T) {
	for _, s := range []said{{"", ""}, {"   ", ""}, {"tick 1", "ok 0 0"}, {"gate", gateAt}, {"fly", "what"}, {"out 0", "none"}} {
		want := ""
		if s.want != "" {
			want = s.want + "\n"
		}
		for _, many := range []int{1, 2, 39, 40} {
			wantScript(t, strings.Repeat(s.line+"\n", many), strings.Repeat(want, many))
		}
		for _, many := range []int{41, 42, 80, 81, 200} {
			wantScript(t, strings.Repeat(s.line+"\n", many), tooLongSaid)
		}
		// Lines that say nothing are lines too.
		wantScript(t, strings.Repeat("\n", 20)+s.line+"\n"+strings.Repeat(" \n", 19), want)
		wantScript(t, strings.Repeat("\n", 20)+s.line+"\n"+strings.Repeat(" \n", 20), tooLongSaid)
		wantScript(t, s.line+"\n"+strings.Repeat("\n", 40), tooLongSaid)
	}
}

func TestScriptOfManyBytes(t *testing.T) {
	long := func(line string, size int) string { return strings.Repeat(" ", size-len(line)-1) + line + "\n" }
	for _, s := range []said{{"", ""}, {"gate", gateAt + "\n"}, {"wire -", "no 7\n"}, {strings.Repeat("x", 5000), "what\n"}, {"wire " + strings.Repeat("00", 2900), "no 7\n"}} {
		for _, size := range []int{5999, 6000} {
			wantScript(t, long(s.line, size), s.want)
			wantScript(t, s.line+strings.Repeat(" ", size-len(s.line)-1)+"\n", s.want)
			wantScript(t, "\n"+long(s.line, size-1), s.want)
		}
		for _, size := range []int{6001, 6002, 12000, 100000} {
			wantScript(t, long(s.line, size), tooLongSaid)
			wantScript(t, "gate\n"+long(s.line, size-5), tooLongSaid)
		}
	}
	wantScript(t, strings.Repeat("x", 5999)+"\n", "what\n")
	wantScript(t, strings.Repeat("x", 6000)+"\n", tooLongSaid)
	// Just as many bytes and lines as may be.
	wantScript(t, strings.Repeat(strings.Repeat(" ", 145)+"gate\n", 40), strings.Repeat(gateAt+"\n", 40))
	wantScript(t, strings.Repeat(strings.Repeat(" ", 145)+"gate\n", 39)+strings.Repeat(" ", 146)+"gate\n", tooLongSaid)
}

func TestScriptThatIsNotEnded(t *testing.T) {
	for _, text := range []string{"gate", " ", "x", "\x00", "\r", "gate\n ", "gate\ngate", "\n\ngate", "gate\r", strings.Repeat("\n", 39) + "gate", strings.Repeat("\n", 40) + "gate", strings.Repeat("\n", 40) + " ", strings.Repeat("x", 6000), strings.Repeat("x", 6001), strings.Repeat("\n", 41) + "x"} {
		wantScript(t, text, tooLongSaid)
	}
}

// Blanks at the ends and several between two words count for nothing; all else, what other texts take for a blank too, is of a word.
func TestWordsOfLines(t *testing.T) {
	for _, text := range []string{"tick 5", " tick 5", "tick 5 ", "   tick   5   ", "tick     5"} {
		wantSaid(t, nil, said{text, "ok 0 0"}, said{"gate", "mtu 1500 now 5 next 0 ends 0 rules 0 waits 0"})
	}
	for _, blank := range []string{"\t", "\v", "\f", "\r", "\x00", "\u00a0", "\u0085", "\u2003", "\u3000", "\xa0", "\x85", "_", ","} {
		for _, text := range []string{"tick" + blank + "5", blank + "tick 5", "tick 5" + blank, blank, "gate" + blank, blank + "gate", "counts" + blank, "out 0" + blank, "out" + blank + "0", "back 0" + blank, "tick " + blank + " 5", "gate " + blank} {
			wantSaid(t, nil, said{text, "what"}, said{"gate", gateAt})
		}
	}
	wantSaid(t, twoEnds,
		said{"  end   3  geneve 1.2.3.4    5.6.7.8 9   df  sum  1:2:   259:130:61626364 ", "ok 0 0"},
		said{" frame  " + hiFrame + "  ", "ok 1 1"}, said{"  out   0 ", hiSent}, said{"back  0", "ok 1 0 " + hiFrame}, said{" back 0  ", "ok 1 0 " + hiFrame},
		said{"   gate ", "mtu 1500 now 0 next 1 ends 3 rules 2 waits 0"}, said{"  counts  ", "8" + noCounts[1:]})
}

// A line that is none of those there are says so, and changes nothing.
func TestLinesThatAreNone(t *testing.T) {
	for _, line := range []string{
		"fly", "fly 1", "gates", "gat", "Gate", "GATE", "gate 1", "gate 0", "gate gate", "gate -", "count", "counts 0", "counts 1 2", "Counts", "counts counts",
		"out", "back", "Out 0", "BACK 0", "outs 0", "out0", "back0", "out 0 0", "back 0 0", "out 0 1 2", "back 0 x", "out out", "back back", "out gate", "0", "0 out", "1 back", "out out 0", "back out 0", "out back 0",
		"end", "mac", "net", "tern", "mtu", "tick", "frame", "wire", "mtu 67", "mtu 65536", "mtu 0100", "mtu 100 100", "tick 0", "tick 1001", "tick -1", "tick 1 1", "frame 0", "frame zz", "frame - -", "frame 0G", "wire 0", "wire 00 00", "wire -0", "wire FF",
		"end 0 gre 1.2.3.4 5.6.7.8 9", "end 3 gre 1.2.3.4 5.6.7.8", "end 3 gre 1.2.3.4 5.6.7.8 16777216", "end 3 mpls 1.2.3.4 5.6.7.8 1048576", "end 3 gre 1.2.3.4 5.6.7.8 9 1:1:", "end 3 gre 1.2.3.4 5.6.7.8 9 sum df", "mac 1 1", "mac 00:00:00:00:00:05 0", "net 1.2.3.4 33 1", "net 1.2.3.4 1", "tern 00:00:00:00:00:01 ff:ff:ff:ff:ff:ff 1001 1", "tern 00:00:00:00:00:05 ff:ff:ff:ff:ff:ff 5 1 1",
		"ok 0 0", "none", "what", "too long", "-", "\x00", "\xff\xfe", "é", "#gate", "gate;", "\"gate\"",
	} {
		wantSaid(t, nil, said{line, "what"}, said{"gate", gateAt}, said{"counts", noCounts})
		wantSaid(t, twoEnds, said{"frame " + hiFrame, "ok 1 1"}, said{line, "what"}, said{"out 0", hiSent}, said{"gate", "mtu 1500 now 0 next 1 ends 2 rules 2 waits 0"}, said{"counts", "5" + noCounts[1:]})
	}
}

func TestCommandsThatAreDone(t *testing.T) {
	wantSaid(t, nil,
		said{"end 9 vxlan 1.2.3.4 5.6.7.8 9", "ok 0 0"}, said{"end 8 geneve 1.2.3.4 5.6.7.8 9 df sum 1:2:61626364", "ok 0 0"}, said{"end 7 gre 1.2.3.4 5.6.7.8 9", "ok 0 0"}, said{"end 6 mpls 1.2.3.4 5.6.7.8 9", "ok 0 0"},
		said{"gate", "mtu 1500 now 0 next 0 ends 4 rules 0 waits 0"}, said{"mac 00:00:00:00:00:01 9", "ok 0 0"}, said{"mac 00:00:00:00:00:02 8", "ok 0 0"}, said{"gate", "mtu 1500 now 0 next 0 ends 4 rules 2 waits 0"},
		said{"net 10.0.0.0 8 7", "ok 0 0"}, said{"gate", "mtu 1500 now 0 next 0 ends 4 rules 3 waits 0"}, said{"tern 00:00:00:00:00:00 00:00:00:00:00:00 0 6", "ok 0 0"}, said{"gate", "mtu 1500 now 0 next 0 ends 4 rules 4 waits 0"},
		said{"mtu 576", "ok 0 0"}, said{"tick 1000", "ok 0 0"}, said{"tick 7", "ok 0 0"}, said{"gate", "mtu 576 now 1007 next 0 ends 4 rules 4 waits 0"},
		said{"frame " + hiFrame, "ok 9 1"}, said{"frame 0000000000020000000000020806", "ok 8 1"}, said{"frame 0000000000030000000000020806", "ok 6 1"}, said{"gate", "mtu 576 now 1007 next 3 ends 4 rules 4 waits 0"},
		said{"counts", "14" + noCounts[1:]})
	s := plainFrame(1, 2, 2054, "hi")
	for _, kind := range allKinds {
		for _, p := range tunnelsOf(kind, 9, s) {
			wantSaid(t, []string{plainText(receivers()[kind-1])}, said{plainText(wires(p)[0]), fmt.Sprintf("ok %d 0 %s", kind, hiFrame)}, said{"out 0", "none"})
		}
	}
}

// Each code that a CmdText may get; GwForm it can't, as it is right, nor GwFull for a tick, as lines are too few for the last time.
func TestCommandsThatAreRefused(t *testing.T) {
	wantSaid(t, nil, said{"mac 00:00:00:00:00:01 1", "no 2"}, said{"net 0.0.0.0 0 1", "no 2"}, said{"tern 00:00:00:00:00:00 00:00:00:00:00:00 0 1", "no 2"}, said{"frame -", "no 4"}, said{"frame " + hiFrame, "no 5"}, said{"wire -", "no 7"}, said{"gate", gateAt})
	wantSaid(t, twoEnds, said{"end 1 vxlan 1.2.3.4 5.6.7.8 9", "no 2"}, said{"end 3 gre 1.2.3.4 5.6.7.8 9", "no 2"}, said{"mac 00:00:00:00:00:01 3", "no 2"}, said{"net 0.0.0.0 0 3", "no 2"}, said{"counts", "4 0 4" + noCounts[5:]})
	var rows []string
	for _, c := range endsUpTo(16) {
		rows = append(rows, plainText(c))
	}
	wantSaid(t, rows, said{plainText(endCmd(endAt(17))), "no 3"}, said{"gate", "mtu 1500 now 0 next 0 ends 16 rules 0 waits 0"})
	for table := range 3 {
		rows = []string{plainText(endCmd(endAt(1)))}
		for n := range int64(32) {
			rows = append(rows, plainText(rulesWith(n, 1)[table]))
		}
		wantSaid(t, rows, said{plainText(rulesWith(32, 1)[table]), "no 3"}, said{plainText(rulesWith(31, 1)[table]), "ok 0 0"}, said{"gate", "mtu 1500 now 0 next 0 ends 1 rules 32 waits 0"}, said{"counts", "34 0 0 1" + noCounts[7:]})
	}
	wantSaid(t, []string{"end 1 gre 1.2.3.4 5.6.7.8 9 df", "mac 00:00:00:00:00:01 1", "mtu 68"}, said{plainText(frameCmd(plainFrame(1, 2, 2054, noughts(22)))), "ok 1 1"}, said{plainText(frameCmd(plainFrame(1, 2, 2054, noughts(23)))), "no 6"}, said{"gate", "mtu 68 now 0 next 1 ends 1 rules 1 waits 0"})
	var ends []string
	for _, c := range receivers() {
		ends = append(ends, plainText(c))
	}
	for _, c := range codeCases()[impl.GwIp:] {
		list := []said{{plainText(c.cmd), fmt.Sprint("no ", c.code)}}
		if c.code == impl.GwBuf {
			list = append([]said{{plainText(codeCases()[impl.GwWait].cmd), "no 9"}}, list...)
		}
		wantSaid(t, ends, list...)
	}
}

// What was sent last is that of the last command that sent something, whatever came since.
func TestWhatWasSentLastStays(t *testing.T) {
	sent := append(twoEnds[:4:4], "mtu 68")
	small := "00000000000200000000000108060000"
	long := plainText(frameCmd(plainFrame(1, 2, 2054, noughts(60))))
	smallSent := strings.Replace(strings.Replace(hiSent, hiFrame, small, 1), "4500003000000000402f6a8c"+"01020304"+"05060708"+"30006558"+"00000009"+"00000000", "4500003000020000402f6a8a"+"05060708"+"01020304"+"30006558"+"00000009"+"00000002", 1)
	wantSaid(t, sent,
		said{"out 0", "none"}, said{"frame " + hiFrame, "ok 1 1"}, said{"out 0", hiSent}, said{"out 1", "none"},
		said{"tick 1", "ok 0 0"}, said{"out 0", hiSent}, said{"frame -", "no 4"}, said{"out 0", hiSent}, said{"frame 000000000009000000000009080666", "no 5"}, said{"out 0", hiSent}, said{"mac 00:00:00:00:00:05 2", "ok 0 0"}, said{"wire -", "no 7"}, said{"mtu 68", "ok 0 0"}, said{"mtu 67", "what"}, said{"out 0", hiSent},
		said{"back 0", "ok 1 0 " + hiFrame}, said{"out 0", hiSent}, said{"gate", "mtu 68 now 1 next 1 ends 2 rules 3 waits 0"}, said{"", ""}, said{"out 1", "none"},
		said{long, "ok 1 2"}, said{"out 2", "none"}, said{"out 0", "450000440001200040" + "2f4a77" + "0102030405060708" + "30006558" + "00000009" + "00000001" + "0000000000010000000000020806" + strings.Repeat("00", 22)}, said{"out 1", "4500003a00010006402f" + "6a7b" + "0102030405060708" + strings.Repeat("00", 38)},
		said{"frame " + small, "ok 2 1"}, said{"out 1", "none"}, said{"out 0", smallSent})
}

// One that is sent in so many pieces, so that the last one of them is out 4.
var fivePieces = append(twoEnds[:4:4], "mtu 68")

func fivePiecesSent(t *testing.T) (string, []string) {
	t.Helper()
	frame := plainFrame(1, 2, 2054, noughts(200))
	sent := impl.Sent([]impl.Cmd{endCmd(impl.End{Id: 1, Kind: impl.KdGre, Local: hereAddr, Remote: thereAddr, Net: 9}), macCmd(1, 1), mtuCmd(68), frameCmd(frame)})
	if len(sent) != 5 {
		t.Fatalf("%d pieces", len(sent))
	}
	return frame, sent
}

func TestPlacesOfWhatWasSent(t *testing.T) {
	frame, sent := fivePiecesSent(t)
	list := []said{{plainText(frameCmd(frame)), "ok 1 5"}}
	for _, r := range []struct {
		word string
		at   int
	}{{"0", 0}, {"1", 1}, {"2", 2}, {"3", 3}, {"4", 4}} {
		list = append(list, said{"out " + r.word, fmt.Sprintf("%x", sent[r.at])})
	}
	wantSaid(t, fivePieces, list...)
	for _, word := range []string{"5", "6", "10", "-1", "-4", "-5", "256", "65536", "4294967296", "4294967297", "1000000000000000", "9999999999999999", "-1000000000000000", "-9999999999999999"} {
		wantPlace(t, word, "none")
	}
	for _, word := range []string{
		"00", "01", "04", "05", "-0", "-00", "-01", "+0", "+1", "--1", "-", "0x0", "0x1", "1_0", "0.", "0.0", "1e0", "x", "a", "zero", "\x00", "0\x00", "0\t", "\uff10", "\u0660", "1,", "'1'",
		"10000000000000000", "99999999999999999", "00000000000000000", "0000000000000001", "-10000000000000000", "-99999999999999999", "18446744073709551616", "18446744073709551617", "9223372036854775807", "-9223372036854775808", strings.Repeat("9", 100), "0" + strings.Repeat("0", 1000),
		"0 0", "0 1", "1 0", "0 x", "x 0", "4 4", "5 5", "-1 0", "",
	} {
		wantPlace(t, word, "what")
	}
}

// wantPlace: what is said of the place in out and back, where nothing was sent yet and where five were.
func wantPlace(t *testing.T, word string, want string) {
	t.Helper()
	frame, _ := fivePiecesSent(t)
	wantSaid(t, nil, said{"out " + word, want}, said{"back " + word, want}, said{"gate", gateAt}, said{"counts", noCounts})
	wantSaid(t, fivePieces, said{plainText(frameCmd(frame)), "ok 1 5"}, said{"out " + word, want}, said{"back " + word, want}, said{"gate", "mtu 68 now 0 next 1 ends 2 rules 2 waits 0"}, said{"counts", "6" + noCounts[1:]})
}

func TestNothingWasSentYet(t *testing.T) {
	wantSaid(t, twoEnds, said{"out 0", "none"}, said{"back 0", "none"}, said{"frame -", "no 4"}, said{"wire -", "no 7"}, said{"tick 1", "ok 0 0"}, said{"out 0", "none"}, said{"back 0", "none"}, said{"counts", "5 0 0 0 1 0 0 1" + noCounts[15:]})
}

// Pieces that come back wait, till the last one that lacks makes the frame whole, in whatever order they come.
func TestPiecesComeBack(t *testing.T) {
	m := maker{state: 141}
	frame, _ := fivePiecesSent(t)
	for _, order := range [][]int{inOrder(5), turnedRound(5), shuffled(&m, 5), shuffled(&m, 5), shuffled(&m, 5)} {
		list := []said{{plainText(frameCmd(frame)), "ok 1 5"}}
		for _, at := range order[:4] {
			list = append(list, said{fmt.Sprint("back ", at), "no 9"}, said{"gate", "mtu 68 now 0 next 1 ends 2 rules 2 waits 1"}, said{fmt.Sprint("back ", at), "no 9"})
		}
		list = append(list, said{fmt.Sprint("back ", order[4]), fmt.Sprintf("ok 1 0 %x", frame)}, said{"gate", "mtu 68 now 0 next 1 ends 2 rules 2 waits 0"}, said{"counts", "7 0 0 0 0 0 0 0 0 8" + noCounts[19:]})
		wantSaid(t, fivePieces, list...)
	}
	// Too late they are those of another one, which waits.
	wantSaid(t, fivePieces, said{plainText(frameCmd(frame)), "ok 1 5"}, said{"back 0", "no 9"}, said{"back 1", "no 9"}, said{"back 2", "no 9"}, said{"back 3", "no 9"}, said{"tick 30", "ok 0 0"}, said{"gate", "mtu 68 now 30 next 1 ends 2 rules 2 waits 0"}, said{"back 4", "no 9"}, said{"gate", "mtu 68 now 30 next 1 ends 2 rules 2 waits 1"})
	// Behind another frame other pieces are meant.
	wantSaid(t, fivePieces, said{plainText(frameCmd(frame)), "ok 1 5"}, said{"back 0", "no 9"}, said{plainText(frameCmd(frame)), "ok 1 5"}, said{"back 0", "no 9"}, said{"gate", "mtu 68 now 0 next 2 ends 2 rules 2 waits 2"})
}

// What is sent comes back to the End that sent it, whatever other Ends there are.
func TestWhatComesBackToItsEnd(t *testing.T) {
	wantSaid(t, []string{twoEnds[0], twoEnds[2]}, said{"frame " + hiFrame, "ok 1 1"}, said{"back 0", "ok 1 0 " + hiFrame}, said{twoEnds[1], "ok 0 0"}, said{"back 0", "ok 1 0 " + hiFrame}, said{"counts", "6" + noCounts[1:]})
	wantSaid(t, twoEnds, said{"frame 0000000000020000000000010806", "ok 2 1"}, said{"back 0", "ok 2 0 0000000000020000000000010806"}, said{"wire " + hiSent, "ok 2 0 " + hiFrame})
	wantSaid(t, []string{"end 5 mpls 9.9.9.9 9.9.9.9 7", "mac 00:00:00:00:00:01 5"}, said{"frame " + hiFrame, "ok 5 1"}, said{"back 0", "ok 5 0 " + hiFrame})
	for _, other := range []string{"end 2 gre 5.6.7.8 1.2.3.4 8", "end 2 vxlan 5.6.7.8 1.2.3.4 9", "end 2 gre 1.2.3.4 5.6.7.8 8", "end 2 vxlan 1.2.3.4 5.6.7.8 9"} {
		wantSaid(t, []string{other, twoEnds[0], twoEnds[2]}, said{"frame " + hiFrame, "ok 1 1"}, said{"back 0", "ok 1 0 " + hiFrame})
	}
	// With a critical option that is not known it is refused there too.
	wantSaid(t, []string{"end 1 geneve 1.2.3.4 5.6.7.8 9 1:255:", twoEnds[2]}, said{"frame " + hiFrame, "ok 1 1"}, said{"back 0", "no 12"}, said{"counts", "3 0 0 0 0 0 0 0 0 0 0 0 1 0 0"})
}

// What is sent by each kind comes back, its sums right as they were.
func TestEachKindComesBack(t *testing.T) {
	for _, kind := range []string{"vxlan", "geneve", "gre", "mpls"} {
		for _, flags := range []string{"", " sum", " df", " df sum"} {
			ahead := []string{"end 1 " + kind + " 1.2.3.4 5.6.7.8 9" + flags, "end 2 " + kind + " 5.6.7.8 1.2.3.4 9", "mac 00:00:00:00:00:01 1"}
			wantSaid(t, ahead, said{"frame " + hiFrame, "ok 1 1"}, said{"back 0", "ok 1 0 " + hiFrame}, said{"back 0", "ok 1 0 " + hiFrame})
		}
	}
}

func TestGateAndCountsAtFirst(t *testing.T) {
	wantSaid(t, nil, said{"gate", gateAt}, said{"counts", noCounts}, said{"gate", gateAt}, said{"counts", noCounts})
	for _, more := range []string{"0", "1", "-", "x", "gate", "counts"} {
		wantSaid(t, nil, said{"gate " + more, "what"}, said{"counts " + more, "what"}, said{more + " gate", "what"}, said{more + " counts", "what"})
	}
}

// More commands than MaxCmds can't come, as lines are fewer; so counts are always told.
func TestScriptOfAsManyCommandsAsMayBe(t *testing.T) {
	if impl.MaxScript > impl.MaxCmds {
		t.Fatal("lines may be too many commands")
	}
	wantScript(t, strings.Repeat("tick 1\n", 39)+"counts\n", strings.Repeat("ok 0 0\n", 39)+"39"+noCounts[1:]+"\n")
	wantScript(t, strings.Repeat("tick 1000\n", 39)+"gate\n", strings.Repeat("ok 0 0\n", 39)+"mtu 1500 now 39000 next 0 ends 0 rules 0 waits 0\n")
	wantScript(t, linesOf(twoEnds)+"frame "+hiFrame+"\n"+strings.Repeat("back 0\n", 34)+"counts\n", strings.Repeat("ok 0 0\n", 4)+"ok 1 1\n"+strings.Repeat("ok 1 0 "+hiFrame+"\n", 34)+"39"+noCounts[1:]+"\n")
}

// Nothing is kept from one script to another.
func TestScriptsAreApart(t *testing.T) {
	for range 3 {
		wantSaid(t, twoEnds, said{"mtu 100", "ok 0 0"}, said{"tick 9", "ok 0 0"}, said{"frame " + hiFrame, "ok 1 1"}, said{"wire -", "no 7"})
		wantSaid(t, nil, said{"out 0", "none"}, said{"gate", gateAt}, said{"counts", noCounts})
	}
}

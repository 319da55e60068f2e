package tests

import (
	"fmt"
	"math/big"
	"runtime"
	"slices"
	"sync"
	"testing"

	"loop.example/g00675/impl"
)

func TestMirrorOf(t *testing.T) {
	for _, e := range goodEnds() {
		once := impl.MirrorOf(e)
		if !sameEnd(once, mirrored(e)) {
			t.Errorf("%s is mirrored as %s", brief(e), brief(once))
		}
		if twice := impl.MirrorOf(once); !sameEnd(twice, e) {
			t.Errorf("%s is mirrored twice as %s", brief(e), brief(twice))
		}
	}
	for _, e := range badEnds() {
		if m := impl.MirrorOf(e); !sameEnd(m, impl.End{}) {
			t.Errorf("what is no End, %s, is mirrored as %s", brief(e), brief(m))
		}
	}
}

// Promise 15, of MirrorOf: its Opts are memory of their own.
func TestMirrorOfIsNewMemory(t *testing.T) {
	room := []impl.Opt{{Class: 259, Type: 130, Data: impl.HexOf("ab")}, {Class: 1, Type: 2, Data: impl.HexOf("cd")}, {Class: 5, Data: "room"}}
	kept := slices.Clone(room)
	e := changedEnd(impl.KdGeneve, func(e *impl.End) { e.Opts = room[:2] })
	for range 2 {
		m := impl.MirrorOf(e)
		if !sameEnd(m, mirrored(e)) {
			t.Errorf("%s is mirrored as %s", brief(e), brief(m))
		}
		wantApart(t, "MirrorOf", []string{m.Opts[0].Data, m.Opts[1].Data}, []string{room[0].Data, room[1].Data})
		spoilOpts(m.Opts)
		wantRules(t, "options and the room behind them", room, kept)
	}
}

// roadTo gives a gateway that sends all frames to 1 by one End.
func roadTo(e impl.End, mtu int64, frames ...string) []impl.Cmd {
	list := []impl.Cmd{endCmd(e), macCmd(1, e.Id), mtuCmd(mtu)}
	for _, s := range frames {
		list = append(list, frameCmd(s))
	}
	return list
}

// smallFrames gives so many frames, unlike each other.
func smallFrames(many int) []string {
	var list []string
	for i := range many {
		list = append(list, plainFrame(1, int64(i), 2054, fmt.Sprint("frame ", i)))
	}
	return list
}

func wantTexts(t *testing.T, what string, got []string, want []string) {
	t.Helper()
	if !slices.Equal(got, want) {
		t.Errorf("%s: %d texts, %s, want %d, %s", what, len(got), brief(got), len(want), brief(want))
	}
}

func TestSent(t *testing.T) {
	for _, list := range [][]impl.Cmd{nil, {}, {{}}, oneOfEach(), receivers(), roadTo(plainEnd(7, impl.KdGre), 68), slices.Repeat([]impl.Cmd{tickCmd(1)}, 80)} {
		wantTexts(t, "no frame is sent", impl.Sent(list), nil)
	}
	e := plainEnd(7, impl.KdVxlan)
	long := plainFrame(1, 2, 2054, noughts(100))
	one, two, three := plainMade(e, 0, smallFrames(1)[0]), plainMade(e, 1, long), plainMade(e, 2, long)
	cut, _ := impl.Fragments(three, 68)
	if len(cut) != 3 {
		t.Fatalf("%d pieces", len(cut))
	}
	list := append(roadTo(e, 1500, smallFrames(1)[0]), frameCmd("no frame"), frameCmd(plainFrame(2, 2, 2054, "")), frameCmd(long), mtuCmd(68), mtuCmd(67), frameCmd(long), wireCmd(long))
	wantTexts(t, "three frames", impl.Sent(list), append(ipsBytes([]impl.Ip{one, two}), ipsBytes(cut)...))
	// What comes and what waits is not sent on.
	wantTexts(t, "what comes", impl.Sent(append(receivers(), wires(comes(47, "abc"), pieceOf(1, 0, true, "12345678"))...)), nil)
}

func TestSentOfEighty(t *testing.T) {
	for _, e := range []impl.End{plainEnd(7, impl.KdGre), plainEnd(7, impl.KdGeneve)} {
		frames := smallFrames(77)
		var want []impl.Ip
		for i, s := range frames {
			want = append(want, plainMade(e, int64(i), s))
		}
		list := roadTo(e, 1500, frames...)
		wantTexts(t, "80 commands", impl.Sent(list), ipsBytes(want))
		wantTexts(t, "79 commands", impl.Sent(list[:79]), ipsBytes(want[:76]))
		wantTexts(t, "81 commands", impl.Sent(append(list, tickCmd(1))), nil)
		wantTexts(t, "more commands", impl.Sent(append(list, list...)), nil)
	}
}

func TestDelivered(t *testing.T) {
	for _, list := range [][]impl.Cmd{nil, {}, {{}}, oneOfEach(), receivers(), roadTo(plainEnd(7, impl.KdGre), 1500, smallFrames(9)...)} {
		wantTexts(t, "no frame comes", impl.Delivered(list), nil)
	}
	cases := allWireCases()
	m := maker{state: 109}
	var mixed []wireCase
	for _, at := range shuffled(&m, len(cases)) {
		mixed = append(mixed, cases[at])
	}
	for some := range slices.Chunk(mixed, 76) {
		list := receivers()
		var want []string
		for _, c := range some {
			list = append(list, wireCmd(impl.IpBytes(c.p)))
			if c.code == impl.GwOk {
				want = append(want, c.what)
			}
		}
		wantTexts(t, "frames of several Ends", impl.Delivered(list), want)
	}
}

// Pieces that come again behind the one that made the datagram whole wait; when all have come again, so has the frame.
func TestDeliveredAgain(t *testing.T) {
	for _, kind := range allKinds {
		s := plainFrame(1, 2, 2054, noughts(60))
		p := tunnelsOf(kind, 9, s)[1]
		pieces, _ := impl.Fragments(p, 68)
		list := append(receivers(), wires(pieces...)...)
		for again := range pieces {
			wantTexts(t, "some come again", impl.Delivered(append(slices.Clone(list), wires(pieces[:again]...)...)), []string{s})
		}
		wantTexts(t, "all come again", impl.Delivered(append(slices.Clone(list), wires(pieces...)...)), []string{s, s})
		wantTexts(t, "whole, three times", impl.Delivered(append(receivers(), wires(p, p, p)...)), []string{s, s, s})
		wantTexts(t, "the first one lacks", impl.Delivered(append(receivers(), wires(pieces[1:]...)...)), nil)
	}
}

func TestDeliveredOfEighty(t *testing.T) {
	s := smallFrames(1)[0]
	p := wires(tunnelsOf(impl.KdGre, 9, s)[0])
	list := append(receivers(), slices.Repeat(p, 76)...)
	wantTexts(t, "80 commands", impl.Delivered(list), slices.Repeat([]string{s}, 76))
	wantTexts(t, "79 commands", impl.Delivered(list[:79]), slices.Repeat([]string{s}, 75))
	wantTexts(t, "81 commands", impl.Delivered(append(list, p...)), nil)
	wantTexts(t, "more commands", impl.Delivered(append(list, list...)), nil)
}

// plainCarried plays the one gateway to its end, and then the other one.
func plainCarried(a []impl.Cmd, b []impl.Cmd, picks []int64) ([]impl.Answer, bool) {
	if len(a) > 80 || len(b)+len(picks) > 80 {
		return nil, false
	}
	far, near := plainGate{impl.Gate{Mtu: 1500}}, plainGate{impl.Gate{Mtu: 1500}}
	var sent []string
	for _, c := range a {
		sent = append(sent, far.play(c).Out...)
	}
	for _, c := range b {
		near.play(c)
	}
	if len(sent) == 0 {
		return nil, len(picks) == 0
	}
	var answers []impl.Answer
	for _, pick := range picks {
		answers = append(answers, near.play(wireCmd(sent[plainPlace(pick, len(sent))])))
	}
	return answers, true
}

func plainPlace(pick int64, many int) int {
	// Mod of these is never below 0.
	return int(new(big.Int).Mod(big.NewInt(pick), big.NewInt(int64(many))).Int64())
}

func wantCarried(t *testing.T, what string, a []impl.Cmd, b []impl.Cmd, picks []int64, want []impl.Answer) {
	t.Helper()
	answers, ok := impl.Carried(a, b, picks)
	if !ok || !slices.EqualFunc(answers, want, sameAnswer) {
		t.Errorf("%s: %v, %d answers, %s, want %d, %s", what, ok, len(answers), brief(answers), len(want), brief(want))
	}
}

func wantNotCarried(t *testing.T, what string, a []impl.Cmd, b []impl.Cmd, picks []int64) {
	t.Helper()
	if answers, ok := impl.Carried(a, b, picks); ok || len(answers) != 0 {
		t.Errorf("%s: %v, %s", what, ok, brief(answers))
	}
}

func TestPicks(t *testing.T) {
	e := plainEnd(7, impl.KdVxlan)
	near := []impl.Cmd{endCmd(mirrored(e))}
	for _, many := range []int{1, 2, 3, 5, 7, 64, 77} {
		frames := smallFrames(many)
		far := roadTo(e, 1500, frames...)
		n := int64(many)
		picks := append([]int64{0, 1, n - 1, n, n + 1, 2 * n, -n, -n - 1, 1 - n, -2 * n, 3, 3, 3}, outsiders...)
		var want []impl.Answer
		for _, pick := range picks {
			want = append(want, impl.Answer{Id: 7, Data: frames[plainPlace(pick, many)]})
		}
		wantCarried(t, fmt.Sprint(many, " frames"), far, near, picks, want)
		for i := range picks {
			wantCarried(t, fmt.Sprint(many, " frames, pick ", picks[i]), far, near, picks[i:i+1], want[i:i+1])
		}
	}
}

func TestPicksByHand(t *testing.T) {
	e := plainEnd(7, impl.KdGre)
	frames := smallFrames(5)
	far, near := roadTo(e, 1500, frames...), []impl.Cmd{endCmd(mirrored(e))}
	for _, c := range [][2]int64{{0, 0}, {4, 4}, {5, 0}, {6, 1}, {9, 4}, {10, 0}, {-1, 4}, {-2, 3}, {-4, 1}, {-5, 0}, {-6, 4}, {leastInt, 2}, {leastInt + 1, 3}, {greatestInt, 2}, {greatestInt - 1, 1}} {
		wantCarried(t, fmt.Sprint("pick ", c[0]), far, near, []int64{c[0]}, []impl.Answer{{Id: 7, Data: frames[c[1]]}})
	}
	// The places are those of all datagrams, not of frames.
	long := plainFrame(1, 2, 2054, noughts(100))
	far = roadTo(e, 68, long, frames[1])
	wait, out, other := impl.Answer{Code: impl.GwWait}, impl.Answer{Id: 7, Data: long}, impl.Answer{Id: 7, Data: frames[1]}
	wantCarried(t, "pieces", far, near, []int64{-1, -2, 0, 1, 3, 7, 5}, []impl.Answer{other, wait, wait, out, other, other, wait})
	wantCarried(t, "the same piece", far, near, []int64{1, 1, 1, 5, -3}, slices.Repeat([]impl.Answer{wait}, 5))
}

func TestAsManyAsMayBeCarried(t *testing.T) {
	e := plainEnd(7, impl.KdVxlan)
	s := smallFrames(1)[0]
	far, near := roadTo(e, 1500, s), []impl.Cmd{endCmd(mirrored(e))}
	eighty := append(slices.Clone(far), slices.Repeat([]impl.Cmd{tickCmd(1)}, 76)...)
	one := impl.Answer{Id: 7, Data: s}
	wantCarried(t, "80 of a", eighty, near, []int64{0, 0}, []impl.Answer{one, one})
	for _, picks := range [][]int64{nil, {}, {0}, make([]int64, 79), make([]int64, 80), make([]int64, 100)} {
		wantNotCarried(t, "81 of a", append(slices.Clone(eighty), tickCmd(1)), near, picks)
		wantNotCarried(t, "81 of a that send nothing", slices.Repeat([]impl.Cmd{tickCmd(1)}, 81), near, picks)
		wantNotCarried(t, "81 of b", far, slices.Repeat(near, 81), picks)
		wantNotCarried(t, "81 of b, and nothing sent", nil, slices.Repeat(near, 81), picks)
	}
	for size := 1; size <= 80; size++ {
		b := append(slices.Clone(near), slices.Repeat([]impl.Cmd{tickCmd(1)}, size-1)...)
		wantCarried(t, fmt.Sprint(size, " of b and 80 in all"), far, b, make([]int64, 80-size), slices.Repeat([]impl.Answer{one}, 80-size))
		wantNotCarried(t, fmt.Sprint(size, " of b and 81 in all"), far, b, make([]int64, 81-size))
	}
	wantCarried(t, "none of b", far, nil, make([]int64, 80), slices.Repeat([]impl.Answer{{Code: impl.GwTo}}, 80))
	wantNotCarried(t, "none of b", far, nil, make([]int64, 81))
	wantCarried(t, "none of b and no picks", far, nil, nil, nil)
	wantCarried(t, "80 of both", eighty, append(slices.Clone(near), slices.Repeat([]impl.Cmd{tickCmd(1)}, 79)...), nil, nil)
}

func TestNothingToCarry(t *testing.T) {
	e := plainEnd(7, impl.KdVxlan)
	near := []impl.Cmd{endCmd(mirrored(e))}
	refused := append(roadTo(e, 1500), frameCmd(""), frameCmd("no frame"), frameCmd(plainFrame(2, 2, 2054, "")), impl.Cmd{})
	isDf := changedEnd(impl.KdGre, func(e *impl.End) { e.Df = true })
	for _, far := range [][]impl.Cmd{nil, {}, {{}}, refused, roadTo(isDf, 68, plainFrame(1, 2, 2054, noughts(100))), slices.Repeat([]impl.Cmd{tickCmd(1)}, 80), append(receivers(), wires(comes(47, ""))...)} {
		for _, b := range [][]impl.Cmd{nil, near, receivers(), roadTo(e, 1500, smallFrames(3)...)} {
			wantCarried(t, "no picks", far, b, nil, nil)
			wantCarried(t, "no picks", far, b, []int64{}, nil)
			for _, picks := range [][]int64{{0}, {-1}, {leastInt}, {greatestInt}, make([]int64, 70)} {
				wantNotCarried(t, "nothing was sent", far, b, picks)
			}
		}
	}
	wantCarried(t, "no picks of what was sent", roadTo(e, 1500, smallFrames(3)...), near, nil, nil)
}

// Commands that are refused send nothing and change nothing; those of b have no answers here.
func TestRefusedCommandsAreCarriedOver(t *testing.T) {
	e := plainEnd(7, impl.KdMpls)
	frames := smallFrames(2)
	far := []impl.Cmd{frameCmd(frames[0]), endCmd(e), endCmd(e), macCmd(1, 8), macCmd(1, 7), {}, mtuCmd(1), frameCmd(frames[1]), frameCmd(""), frameCmd(frames[0])}
	near := []impl.Cmd{{}, frameCmd(frames[0]), endCmd(impl.End{}), endCmd(mirrored(e)), endCmd(mirrored(e)), wireCmd("x"), wireCmd(impl.IpBytes(plainMade(e, 0, frames[0])))}
	wantCarried(t, "refused commands", far, near, []int64{0, 1, 2}, []impl.Answer{{Id: 7, Data: frames[1]}, {Id: 7, Data: frames[0]}, {Id: 7, Data: frames[1]}})
	// What the gateway that b made has in its Buf counts.
	long := plainFrame(1, 2, 2054, noughts(60))
	far = roadTo(e, 68, long)
	pieces := impl.Sent(far)
	wait := impl.Answer{Code: impl.GwWait}
	for last := range pieces {
		near := []impl.Cmd{endCmd(mirrored(e))}
		for i, s := range pieces {
			if i != last {
				near = append(near, wireCmd(s))
			}
		}
		picks, want := []int64{int64(last), int64(last)}, []impl.Answer{{Id: 7, Data: long}, wait}
		wantCarried(t, "the last piece", far, near, picks, want)
		wantCarried(t, "the last piece in time", far, append(slices.Clone(near), tickCmd(29)), picks, want)
		wantCarried(t, "the last piece too late", far, append(slices.Clone(near), tickCmd(30)), picks, []impl.Answer{wait, wait})
	}
}

// A gateway that is told of no Mtu has the first one, here too.
func TestRoadOfTheFirstMtu(t *testing.T) {
	for _, kind := range allKinds {
		e := plainEnd(7, kind)
		ahead := sizeOf(plainMade(e, 0, plainFrame(1, 2, 2054, "")))
		for most, want := range map[int64]int{1500: 1, 1501: 2} {
			s := plainFrame(1, 2, 2054, noughts(int(most-ahead)))
			far := []impl.Cmd{endCmd(e), macCmd(1, 7), frameCmd(s)}
			wantNumber(t, "pieces", int64(len(impl.Sent(far))), int64(want))
			wantOnceBehind(t, fmt.Sprint(most, " bytes"), far, []impl.Cmd{endCmd(mirrored(e))}, asPicks(turnedRound(want)), impl.Answer{Id: 7, Data: s})
		}
	}
}

// mirrors gives the Ends of a list of commands, mirrored.
func mirrors(list []impl.Cmd) []impl.Cmd {
	var out []impl.Cmd
	for _, c := range list {
		if c.Kind == impl.GcEnd && len(out) < 16 {
			out = append(out, endCmd(mirrored(c.E)))
		}
	}
	return out
}

func TestCarriedAgainstPlainGates(t *testing.T) {
	m := player{maker: maker{state: 110}}
	codes := make([]int, 15)
	carried := 0
	for round := range 600 {
		a := m.list(int(m.one(20, 60, 79, 80, 80, 81)))
		b := append(mirrors(a), m.list(int(m.below(12)))...)
		picks := make([]int64, min(80-len(b)+int(m.below(40))/39, int(m.below(64))))
		for i := range picks {
			picks[i] = m.below(1000) - 500
		}
		want, wantOk := plainCarried(a, b, picks)
		answers, ok := impl.Carried(a, b, picks)
		if ok != wantOk || !slices.EqualFunc(answers, want, sameAnswer) {
			t.Fatalf("round %d: %v, %s, want %v, %s", round, ok, brief(answers), wantOk, brief(want))
		}
		if ok {
			carried++
		}
		for _, answer := range answers {
			codes[answer.Code]++
		}
	}
	for _, code := range []int64{impl.GwOk, impl.GwTo, impl.GwWait, impl.GwBuf, impl.GwTun, impl.GwNet} {
		if codes[code] < 10 {
			t.Errorf("code %d came %d times", code, codes[code])
		}
	}
	if carried < 300 || carried == 600 {
		t.Errorf("%d of 600 were carried", carried)
	}
}

func TestSentAndDeliveredAgainstPlainGates(t *testing.T) {
	m := player{maker: maker{state: 111}}
	for range 200 {
		list := m.list(int(m.one(1, 30, 79, 80)))
		plain := plainGate{impl.Gate{Mtu: 1500}}
		var sent, delivered []string
		for _, c := range list {
			a := plain.play(c)
			sent = append(sent, a.Out...)
			if c.Kind == impl.GcWire && a.Code == impl.GwOk {
				delivered = append(delivered, a.Data)
			}
		}
		wantTexts(t, "Sent", impl.Sent(list), sent)
		wantTexts(t, "Delivered", impl.Delivered(list), delivered)
	}
}

// frameInPieces gives a frame that an End sends in so many pieces by an mtu of 68, of which the last one lacks so many bytes to be as long as the others; false when all frames take more.
func frameInPieces(e impl.End, many int, lacks int) (string, bool) {
	ahead := len(plainMade(e, 0, plainFrame(1, 2, 2054, "")).Data)
	size := 48*many - lacks - ahead
	if size < 0 {
		return "", false
	}
	m := maker{state: uint64(many + lacks)}
	return plainFrame(1, 2, 2054, m.text(size)), true
}

// withTwice gives an order in which some of what came already comes once more, ahead of the last one.
func withTwice(m *maker, order []int) []int64 {
	var picks []int64
	for i, at := range order {
		for i > 0 && m.below(2) == 0 && len(picks)+len(order)-i < 79 {
			picks = append(picks, int64(order[m.below(int64(i))]))
		}
		picks = append(picks, int64(at))
	}
	return picks
}

func inOrder(many int) []int {
	order := make([]int, many)
	for i := range order {
		order[i] = i
	}
	return order
}

func turnedRound(many int) []int {
	order := inOrder(many)
	slices.Reverse(order)
	return order
}

func asPicks(order []int) []int64 {
	var picks []int64
	for _, at := range order {
		picks = append(picks, int64(at))
	}
	return picks
}

// wantOnceBehind: all of picks but the last one have pieces that wait; the last one makes the frame come out.
func wantOnceBehind(t *testing.T, what string, a []impl.Cmd, b []impl.Cmd, picks []int64, last impl.Answer) {
	t.Helper()
	want := slices.Repeat([]impl.Answer{{Code: impl.GwWait}}, len(picks)-1)
	wantCarried(t, what, a, b, picks, append(want, last))
}

func hasUnknownOption(e impl.End) bool {
	return slices.ContainsFunc(e.Opts, func(o impl.Opt) bool { return o.Type >= 128 && o.Class != 259 })
}

// Promise 10: a frame in 1 .. 16 pieces comes out just once, as it was, in whatever order they come, and however often some come twice ahead of the last one that lacks, by each kind of tunnel.
func TestFrameComesOutOnce(t *testing.T) {
	m := maker{state: 112}
	pieces := make([]int, 17)
	for _, e := range sendingEnds() {
		e.Df = false
		near := []impl.Cmd{endCmd(impl.MirrorOf(e))}
		for _, many := range []int{1, 2, 3, 7, 15, 16} {
			for _, lacks := range []int{0, 1, 47} {
				s, ok := frameInPieces(e, many, lacks)
				if !ok {
					continue
				}
				far := roadTo(e, 68, s)
				wantNumber(t, "pieces", int64(len(impl.Sent(far))), int64(many))
				last := impl.Answer{Id: 7, Data: s}
				if hasUnknownOption(e) {
					last = impl.Answer{Code: impl.GwTun}
				}
				pieces[many]++
				for _, order := range [][]int{inOrder(many), turnedRound(many), shuffled(&m, many), shuffled(&m, many)} {
					what := fmt.Sprintf("%d pieces of %s in the order %v", many, brief(e), order)
					wantOnceBehind(t, what, far, near, asPicks(order), last)
					wantOnceBehind(t, what, far, near, withTwice(&m, order), last)
				}
			}
		}
	}
	for _, many := range []int{1, 2, 16} {
		if pieces[many] < 40 {
			t.Errorf("%d frames in %d pieces", pieces[many], many)
		}
	}
}

// With a piece left out nothing comes out, however often the others come.
func TestPieceLeftOut(t *testing.T) {
	m := maker{state: 113}
	for _, e := range sendingEnds() {
		e.Df = false
		near := []impl.Cmd{endCmd(impl.MirrorOf(e))}
		for _, many := range []int{2, 3, 16} {
			s, ok := frameInPieces(e, many, 5)
			if !ok {
				continue
			}
			far := roadTo(e, 68, s)
			for _, order := range [][]int{inOrder(many), turnedRound(many), shuffled(&m, many)} {
				for out := range order {
					picks := asPicks(slices.Delete(slices.Clone(order), out, out+1))
					for range 20 {
						picks = append(picks, picks[m.below(int64(len(picks)))])
					}
					wantCarried(t, fmt.Sprintf("%s without piece %d of %d", brief(e), order[out], many), far, near, picks, slices.Repeat([]impl.Answer{{Code: impl.GwWait}}, len(picks)))
				}
			}
		}
	}
}

// severalEnds gives a gateway with an End of each kind, each with frames to an address of its own.
func severalEnds(mtu int64) []impl.Cmd {
	list := []impl.Cmd{mtuCmd(mtu)}
	for _, kind := range allKinds {
		e := plainEnd(kind, kind)
		e.Sum = kind%2 == 0
		list = append(list, endCmd(e), macCmd(kind, kind))
	}
	return list
}

// laidTogether gives the places of several lists in one, each list in its order; at times one comes once more that came already, ahead of the last one of its list.
func laidTogether(m *maker, lists [][]int64, most int) []int64 {
	var out []int64
	came := make([]int, len(lists))
	left := 0
	for _, l := range lists {
		left += len(l)
	}
	for left > 0 {
		i := m.below(int64(len(lists)))
		if came[i] == len(lists[i]) {
			continue
		}
		if came[i] > 0 && m.below(3) == 0 && len(out)+left < most {
			out = append(out, lists[i][m.below(int64(came[i]))])
			continue
		}
		out = append(out, lists[i][came[i]])
		came[i]++
		left--
	}
	return out
}

// Promise 10: frames of several Ends, whose pieces come in between each other.
func TestFramesComeOutOnceEach(t *testing.T) {
	m := maker{state: 114}
	for round := range 200 {
		far := severalEnds(68)
		near := mirrors(far)
		var frames []string
		var places [][]int64
		for i := range 4 {
			s := plainFrame(1+m.below(4), int64(i), 2054, m.text(int(m.below(600))))
			ahead := len(impl.Sent(far))
			far = append(far, frameCmd(s))
			frames = append(frames, s)
			var own []int64
			for _, at := range shuffled(&m, len(impl.Sent(far))-ahead) {
				own = append(own, int64(ahead+at))
			}
			if len(own) > 16 {
				t.Fatalf("%d pieces", len(own))
			}
			places = append(places, own)
		}
		lost := m.below(8)
		if lost < 4 {
			places[lost] = places[lost][1:]
		}
		answers, ok := impl.Carried(far, near, laidTogether(&m, places, 80-len(near)))
		got := map[string]int{}
		for _, a := range answers {
			if a.Code == impl.GwOk {
				got[a.Data]++
				wantNumber(t, "Id", a.Id, int64(a.Data[5]))
			} else if !sameAnswer(a, impl.Answer{Code: impl.GwWait}) {
				t.Errorf("round %d: %s", round, brief(a))
			}
		}
		for i, s := range frames {
			want := 1
			if int64(i) == lost {
				want = 0
			}
			if !ok || got[s] != want || len(got) > len(frames) {
				t.Errorf("round %d: frame %d came out %d times, want %d", round, i, got[s], want)
			}
		}
	}
}

// Promise 10: whatever is lost, comes twice or in another order, what comes out was a frame, as it was, and by the End that sent it.
func TestWhatComesOutWasAFrame(t *testing.T) {
	m := maker{state: 115}
	came, lost := 0, 0
	for round := range 300 {
		far := severalEnds(68 + m.below(60))
		idOf := map[string]int64{}
		for i := range 1 + m.below(6) {
			id := 1 + m.below(4)
			s := plainFrame(id, i, 2054, m.text(int(m.below(200))))
			idOf[s] = id
			far = append(far, frameCmd(s))
		}
		near := mirrors(far)
		picks := make([]int64, m.below(int64(81-len(near))))
		for i := range picks {
			picks[i] = m.below(200) - 100
			if m.below(3) > 0 && i > 0 {
				picks[i] = picks[i-1] + 1
			}
		}
		answers, ok := impl.Carried(far, near, picks)
		if !ok || len(answers) != len(picks) {
			t.Fatalf("round %d: %v, %d answers", round, ok, len(answers))
		}
		seen := map[string]bool{}
		for _, a := range answers {
			if a.Code == impl.GwOk {
				seen[a.Data] = true
				if idOf[a.Data] == 0 || idOf[a.Data] != a.Id {
					t.Errorf("round %d: %s is no frame of that End", round, brief(a))
				}
				came++
			}
		}
		lost += len(idOf) - len(seen)
	}
	if came < 500 || lost < 100 {
		t.Errorf("%d came, %d were lost", came, lost)
	}
}

// A frame of more than 16 pieces comes out in order too; with 17 that do not touch there is no room for one of these.
func TestFrameOfManyPieces(t *testing.T) {
	e := changedEnd(impl.KdGeneve, func(e *impl.End) { e.Opts = make([]impl.Opt, 63) })
	near := []impl.Cmd{endCmd(impl.MirrorOf(e))}
	s, _ := frameInPieces(e, 33, 3)
	far := roadTo(e, 68, s)
	wantNumber(t, "pieces", int64(len(impl.Sent(far))), 33)
	wantOnceBehind(t, "in order", far, near, asPicks(inOrder(33)), impl.Answer{Id: 7, Data: s})
	wantOnceBehind(t, "turned round", far, near, asPicks(turnedRound(33)), impl.Answer{Id: 7, Data: s})
	var picks []int64
	for at := int64(32); at > 0; at -= 2 {
		picks = append(picks, at)
	}
	want := slices.Repeat([]impl.Answer{{Code: impl.GwWait}}, 16)
	wantCarried(t, "16 that do not touch", far, near, picks, want)
	want = append(want, impl.Answer{Code: impl.GwBuf}, impl.Answer{Code: impl.GwWait}, impl.Answer{Code: impl.GwWait})
	wantCarried(t, "17 that do not touch", far, near, append(picks, 0, 1, 0), want)
}

// Promise 15, of roads: nothing is written into what is given nor behind it, and no answer shares memory with it.
func TestRoadsStayAndAreNewMemory(t *testing.T) {
	m := player{maker: maker{state: 116}}
	carried := 0
	for round := range 60 {
		far := cloneCmds(m.list(70))
		near := cloneCmds(append(mirrors(far), m.list(20)...))
		picks := make([]int64, 40)
		for i := range picks {
			picks[i] = m.below(60) - 20
		}
		keptFar, keptNear, keptPicks := cloneCmds(far), cloneCmds(near), slices.Clone(picks)
		what := fmt.Sprint("round ", round)
		given := append(cmdTexts(far), cmdTexts(near)...)
		for range 2 {
			answers, ok := impl.Carried(far[:60], near[:len(near)-10], picks[:30])
			want, wantOk := plainCarried(keptFar[:60], keptNear[:len(near)-10], keptPicks[:30])
			if ok != wantOk || !slices.EqualFunc(answers, want, sameAnswer) {
				t.Fatalf("%s: %v, %s", what, ok, brief(answers))
			}
			if ok {
				carried++
			}
			sent, delivered := impl.Sent(far[:60]), impl.Delivered(far[:60])
			wantApart(t, what, append(append(answerTexts(answers), sent...), delivered...), given)
			clear(answers[:cap(answers)])
			clear(sent[:cap(sent)])
			clear(delivered[:cap(delivered)])
			if !slices.EqualFunc(far, keptFar, sameCmd) || !slices.EqualFunc(near, keptNear, sameCmd) || !slices.Equal(picks, keptPicks) {
				t.Fatalf("%s: what was given is another now", what)
			}
		}
	}
	if carried < 60 {
		t.Errorf("only %d of 120 were carried", carried)
	}
}

// Promise 15: one list as both gateways', by many callers at once.
func TestManyRoadsAtOnce(t *testing.T) {
	e := changedEnd(impl.KdGeneve, func(e *impl.End) { e.Opts, e.Sum = []impl.Opt{{Class: 1, Data: "abcd"}}, true })
	both := append(roadTo(e, 68, plainFrame(1, 2, 2054, noughts(60)), smallFrames(1)[0]), endCmd(impl.End{Id: 8, Kind: e.Kind, Local: e.Remote, Remote: e.Local, Net: e.Net}))
	picks := []int64{3, 2, 1, 0, 3, -1, -4, 9}
	want, _ := plainCarried(both, both, picks)
	var callers sync.WaitGroup
	for range 16 {
		callers.Go(func() {
			for range 60 {
				if answers, ok := impl.Carried(both, both, picks); !ok || !slices.EqualFunc(answers, want, sameAnswer) {
					t.Errorf("%v, %s", ok, brief(answers))
				}
			}
		})
	}
	callers.Wait()
}

// No gateway runs on when the call has answered, whatever it answers.
func TestNoGatewayIsLeft(t *testing.T) {
	e := plainEnd(7, impl.KdVxlan)
	far, near := roadTo(e, 68, plainFrame(1, 2, 2054, noughts(600))), []impl.Cmd{endCmd(mirrored(e))}
	before := runtime.NumGoroutine()
	for range 300 {
		impl.Carried(far, near, asPicks(inOrder(16)))
		impl.Carried(far, near, nil)
		impl.Carried(nil, near, []int64{0})
		impl.Carried(nil, nil, nil)
		impl.Carried(far, near, make([]int64, 80))
	}
	// One that has said that it is through may take a moment to be gone.
	for range 10000 {
		if runtime.NumGoroutine() <= before {
			return
		}
		runtime.Gosched()
	}
	t.Errorf("%d goroutines, %d ahead", runtime.NumGoroutine(), before)
}

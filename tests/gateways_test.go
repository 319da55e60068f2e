package tests

import (
	"fmt"
	"slices"
	"testing"

	"loop.example/g00675/impl"
)

func sameGate(a impl.Gate, b impl.Gate) bool {
	return a.Mtu == b.Mtu && a.Now == b.Now && a.Next == b.Next && slices.EqualFunc(a.Ends, b.Ends, sameEnd) &&
		slices.Equal(a.Exacts, b.Exacts) && slices.Equal(a.Prefixes, b.Prefixes) && slices.Equal(a.Terns, b.Terns) && sameBuf(a.Buf, b.Buf)
}

func sameAnswer(a impl.Answer, b impl.Answer) bool {
	return a.Code == b.Code && slices.Equal(a.Out, b.Out) && a.Id == b.Id && a.Data == b.Data
}

// played plays commands, of which there are not too many, and holds how many answers there are against these.
func played(t *testing.T, list ...impl.Cmd) (impl.Gate, []impl.Answer) {
	t.Helper()
	g, answers := impl.Play(list)
	if len(answers) != len(list) {
		t.Fatalf("%d commands, %d answers", len(list), len(answers))
	}
	return g, answers
}

// wantRefused: the last command behind some others has this code, tells nothing else, and changes nothing.
func wantRefused(t *testing.T, ahead []impl.Cmd, c impl.Cmd, want int64) {
	t.Helper()
	before, _ := played(t, ahead...)
	after, answers := played(t, append(slices.Clone(ahead), c)...)
	if a := answers[len(ahead)]; !sameAnswer(a, impl.Answer{Code: want}) {
		t.Errorf("%s: %s, want code %d alone", brief(c), brief(a), want)
	}
	if !sameGate(before, after) {
		t.Errorf("%s: %s became %s", brief(c), brief(before), brief(after))
	}
}

// wantDone: the last command behind some others is answered with GwOk and nothing else; what the gate is then.
func wantDone(t *testing.T, ahead []impl.Cmd, c impl.Cmd) impl.Gate {
	t.Helper()
	g, answers := played(t, append(slices.Clone(ahead), c)...)
	if a := answers[len(ahead)]; !sameAnswer(a, impl.Answer{}) {
		t.Errorf("%s: %s, want GwOk alone", brief(c), brief(a))
	}
	return g
}

func TestPlayOfNone(t *testing.T) {
	for _, list := range [][]impl.Cmd{nil, {}} {
		if g, answers := impl.Play(list); !sameGate(g, impl.Gate{Mtu: 1500}) || len(answers) != 0 {
			t.Errorf("%s, %v", brief(g), answers)
		}
	}
}

func TestEightyCommands(t *testing.T) {
	for _, c := range append(oneOfEach(), impl.Cmd{}) {
		for _, size := range []int{1, 79, 80} {
			g, _ := played(t, slices.Repeat([]impl.Cmd{c}, size)...)
			if g.Mtu == 0 {
				t.Errorf("%d times %s: no gate", size, brief(c))
			}
		}
		for _, size := range []int{81, 82, 1000} {
			if g, answers := impl.Play(slices.Repeat([]impl.Cmd{c}, size)); !sameGate(g, impl.Gate{}) || len(answers) != 0 {
				t.Errorf("%d times %s: %s and %d answers", size, brief(c), brief(g), len(answers))
			}
		}
	}
}

func TestWrongCommandsArePlayed(t *testing.T) {
	ahead := []impl.Cmd{endCmd(plainEnd(1, impl.KdVxlan)), macCmd(5, 1), mtuCmd(100), tickCmd(5)}
	for _, c := range badCmds() {
		wantRefused(t, nil, c, impl.GwForm)
		wantRefused(t, ahead, c, impl.GwForm)
	}
}

// endAt gives an End that differs from all of other Ids.
func endAt(id int64) impl.End {
	e := plainEnd(id, impl.KdVxlan)
	e.Net = id
	return e
}

func endsUpTo(last int64) []impl.Cmd {
	var list []impl.Cmd
	for id := int64(1); id <= last; id++ {
		list = append(list, endCmd(endAt(id)))
	}
	return list
}

func TestEnds(t *testing.T) {
	for _, e := range goodEnds() {
		g := wantDone(t, nil, endCmd(e))
		if !sameGate(g, impl.Gate{Mtu: 1500, Ends: []impl.End{e}}) {
			t.Errorf("%s: %s", brief(e), brief(g))
		}
		wantRefused(t, []impl.Cmd{endCmd(e)}, endCmd(e), impl.GwId)
	}
	first := changedEnd(impl.KdGeneve, func(e *impl.End) { e.Df = true })
	ahead := []impl.Cmd{endCmd(first)}
	for _, change := range []func(e *impl.End){
		func(e *impl.End) {}, func(e *impl.End) { e.Kind = impl.KdGre }, func(e *impl.End) { e.Local = 0 }, func(e *impl.End) { e.Remote = 0 }, func(e *impl.End) { e.Net = 0 }, func(e *impl.End) { e.Df, e.Sum = false, true }, func(e *impl.End) { e.Opts = []impl.Opt{{}} },
		func(e *impl.End) { e.Local, e.Remote = e.Remote, e.Local },
	} {
		e := first
		change(&e)
		wantRefused(t, ahead, endCmd(e), impl.GwId)
		e.Id = 8
		if e.Kind == first.Kind && e.Local == first.Local && e.Remote == first.Remote && e.Net == first.Net {
			wantRefused(t, ahead, endCmd(e), impl.GwId)
			continue
		}
		g := wantDone(t, ahead, endCmd(e))
		if !slices.EqualFunc(g.Ends, []impl.End{first, e}, sameEnd) {
			t.Errorf("two ends: %v", g.Ends)
		}
	}
}

func TestSixteenEnds(t *testing.T) {
	g := wantDone(t, endsUpTo(15), endCmd(endAt(16)))
	for i, e := range g.Ends {
		if !sameEnd(e, endAt(int64(i+1))) || len(g.Ends) != 16 {
			t.Errorf("end %d of %d: %v", i, len(g.Ends), e)
		}
	}
	wantRefused(t, endsUpTo(16), endCmd(endAt(17)), impl.GwFull)
	wantRefused(t, endsUpTo(16), endCmd(endAt(99)), impl.GwFull)
	// An Id that is there, and a tunnel that is, are told ahead of too many.
	for _, id := range []int64{1, 9, 16} {
		other := endAt(id)
		other.Net = 500
		wantRefused(t, endsUpTo(16), endCmd(other), impl.GwId)
		other = endAt(id)
		other.Id = 50
		wantRefused(t, endsUpTo(16), endCmd(other), impl.GwId)
	}
}

// rulesWith gives a rule of each table with an act.
func rulesWith(n int64, act int64) []impl.Cmd {
	return []impl.Cmd{macCmd(n, act), netCmd(n, 32, act), ternCmd(n, keyEnd-1, 5, act)}
}

func TestRulesOfNoEnd(t *testing.T) {
	for _, ahead := range [][]impl.Cmd{nil, {endCmd(endAt(2))}, endsUpTo(16)} {
		for _, act := range []int64{17, 50, 99} {
			for _, c := range rulesWith(5, act) {
				wantRefused(t, ahead, c, impl.GwId)
			}
		}
	}
	for _, c := range append(rulesWith(5, 1), rulesWith(5, 3)...) {
		wantRefused(t, []impl.Cmd{endCmd(endAt(2))}, c, impl.GwId)
	}
}

func TestRulesArePut(t *testing.T) {
	ahead := endsUpTo(3)
	g, _ := played(t, append(ahead, macCmd(9, 1), macCmd(5, 2), macCmd(9, 3), netCmd(0x0a010203, 16, 1), netCmd(0, 0, 2), netCmd(0x0a01ffff, 16, 3), ternCmd(5, 7, 10, 1), ternCmd(4, 4, 20, 2), ternCmd(5, 7, 10, 3))...)
	wantRules(t, "by key", g.Exacts, []impl.Exact{{Key: 5, Act: 2}, {Key: 9, Act: 3}})
	wantRules(t, "by prefix", g.Prefixes, []impl.Prefix{{Act: 2}, {Addr: 0x0a010000, Bits: 16, Act: 3}})
	wantRules(t, "by mask", g.Terns, []impl.Tern{{Value: 4, Mask: 4, Pri: 20, Act: 2}, {Value: 5, Mask: 7, Pri: 10, Act: 3}})
	for _, c := range append(append(rulesWith(5, 1), rulesWith(0, 2)...), rulesWith(addrEnd-1, 3)...) {
		g := wantDone(t, ahead, c)
		wantNumber(t, "rules", int64(len(g.Exacts)+len(g.Prefixes)+len(g.Terns)), 1)
		wantNumber(t, "rules of a kind", []int64{int64(len(g.Exacts)), int64(len(g.Prefixes)), int64(len(g.Terns))}[c.Kind-impl.GcMac], 1)
	}
}

func TestFullTables(t *testing.T) {
	for table := range 3 {
		list := endsUpTo(2)
		for n := range int64(31) {
			list = append(list, rulesWith(10*n, 1)[table])
		}
		last := rulesWith(310, 1)[table]
		g := wantDone(t, list, last)
		list = append(list, last)
		wantNumber(t, "rules", int64(len(g.Exacts)+len(g.Prefixes)+len(g.Terns)), 32)
		for _, n := range []int64{1, 155, 311, 5000} {
			wantRefused(t, list, rulesWith(n, 1)[table], impl.GwFull)
			// No End is told ahead of no room.
			wantRefused(t, list, rulesWith(n, 3)[table], impl.GwId)
		}
		for _, n := range []int64{0, 150, 310} {
			wantRefused(t, list, rulesWith(n, 3)[table], impl.GwId)
			g := wantDone(t, list, rulesWith(n, 2)[table])
			if sum := impl.ExactFind(g.Exacts, n) + impl.PrefixFind(g.Prefixes, n) + impl.TernFind(g.Terns, n); sum != 2 {
				t.Errorf("table %d: the act of %d is %d", table, n, sum)
			}
		}
		// The others are not full.
		for other := range 3 {
			if other != table {
				wantDone(t, list, rulesWith(5, 1)[other])
			}
		}
	}
}

func TestMtuIsSet(t *testing.T) {
	for _, n := range []int64{68, 69, 1499, 1500, 1501, 65534, 65535} {
		if g := wantDone(t, nil, mtuCmd(n)); !sameGate(g, impl.Gate{Mtu: n}) {
			t.Errorf("mtu %d: %v", n, g)
		}
		if g := wantDone(t, []impl.Cmd{mtuCmd(100)}, mtuCmd(n)); g.Mtu != n {
			t.Errorf("mtu %d: %v", n, g)
		}
	}
}

// Eighty commands of 1000 at most do not come to the last time.
func TestTicks(t *testing.T) {
	for _, n := range []int64{1, 2, 29, 30, 999, 1000} {
		if g := wantDone(t, nil, tickCmd(n)); !sameGate(g, impl.Gate{Mtu: 1500, Now: n}) {
			t.Errorf("tick %d: %v", n, g)
		}
		if g := wantDone(t, []impl.Cmd{tickCmd(1000), tickCmd(7)}, tickCmd(n)); g.Now != 1007+n {
			t.Errorf("tick %d: %v", n, g)
		}
	}
	if g := wantDone(t, slices.Repeat([]impl.Cmd{tickCmd(1000)}, 79), tickCmd(1000)); g.Now != 80000 {
		t.Errorf("80 ticks: %v", g)
	}
}

// plainFrame gives a frame's bytes.
func plainFrame(dst int64, src int64, kind int64, data string) string {
	return impl.FrameBytes(impl.Frame{Dst: dst, Src: src, Type: kind, Data: data})
}

// plainMade gives what is made of a frame's bytes for an End.
func plainMade(e impl.End, next int64, s string) impl.Ip {
	p := impl.Ip{Id: next, Df: e.Df, Ttl: 64, Proto: 17, Src: e.Local, Dst: e.Remote}
	u := impl.Udp{From: 49152 + impl.SumOf(s)%16384, Sum: e.Sum}
	switch e.Kind {
	case impl.KdVxlan:
		u.To, u.Data = 4789, impl.VxlanBytes(e.Net, s)
	case impl.KdGeneve:
		u.To, u.Data = 6081, impl.GeneveBytes(e.Net, e.Opts, s)
	case impl.KdMpls:
		u.To, u.Data = 6635, impl.MplsBytes([]impl.Label{{Label: e.Net, Ttl: 64}}, s)
	case impl.KdGre:
		p.Proto, p.Data = 47, impl.GreBytes(impl.Gre{Sum: e.Sum, HasKey: true, Key: e.Net, HasSeq: true, Seq: next, Data: s})
		return p
	}
	p.Data = impl.UdpBytes(e.Local, e.Remote, u)
	return p
}

func ipsBytes(l []impl.Ip) []string {
	var out []string
	for _, p := range l {
		out = append(out, impl.IpBytes(p))
	}
	return out
}

func readAll(t *testing.T, out []string) []impl.Ip {
	t.Helper()
	var l []impl.Ip
	for _, s := range out {
		p, code := impl.ReadIp(s)
		if code != impl.InOk {
			t.Fatalf("no datagram, %d: %s", code, brief(s))
		}
		l = append(l, p)
	}
	return l
}

// sendingEnds are Ends of all kinds, with and without flags and options.
func sendingEnds() []impl.End {
	var list []impl.End
	for _, kind := range allKinds {
		for flags := range 4 {
			list = append(list, changedEnd(kind, func(e *impl.End) { e.Df, e.Sum = flags&1 > 0, flags&2 > 0 }))
		}
		list = append(list, changedEnd(kind, func(e *impl.End) { e.Net, e.Local, e.Remote = labelEnd-1, addrEnd-1, 0 }), changedEnd(kind, func(e *impl.End) { e.Net = 0 }))
	}
	for _, opts := range [][]impl.Opt{{{Class: 1, Type: 2, Data: "abcd"}}, {{Class: 259, Type: 130, Data: "abcd"}}, {{Class: 7, Type: 200}}, make([]impl.Opt, 63)} {
		list = append(list, changedEnd(impl.KdGeneve, func(e *impl.End) { e.Opts, e.Sum = opts, true }))
	}
	return list
}

func sendingFrames() []string {
	m := maker{state: 95}
	list := []string{plainFrame(1, 2, 2048, ""), plainFrame(1, keyEnd-1, 65535, "x"), impl.FrameBytes(impl.Frame{Dst: 1, Src: 2, Tags: []int64{3, 4}, Type: 2048, Data: m.text(1500)})}
	for _, size := range []int{2, 17, 100, 700, 1499, 1500} {
		list = append(list, plainFrame(1, 2, 2054, m.text(size)))
	}
	return list
}

// Promise 9: what is sent for a frame are datagrams of no more bytes than Mtu that tile.
func TestFramesAreSent(t *testing.T) {
	for _, e := range sendingEnds() {
		for _, s := range sendingFrames() {
			for _, mtu := range []int64{68, 69, 75, 76, 100, 576, 1500, 65535} {
				ahead := []impl.Cmd{endCmd(e), macCmd(1, 7), mtuCmd(mtu)}
				made := plainMade(e, 0, s)
				want, code := impl.Fragments(made, mtu)
				if code != impl.FrOk {
					wantRefused(t, ahead, frameCmd(s), impl.GwMtu)
					continue
				}
				g, answers := played(t, append(ahead, frameCmd(s))...)
				a := answers[3]
				if !sameAnswer(a, impl.Answer{Out: ipsBytes(want), Id: 7}) || !sameGate(g, impl.Gate{Mtu: mtu, Next: 1, Ends: []impl.End{e}, Exacts: []impl.Exact{{Key: 1, Act: 7}}}) {
					t.Errorf("%s of %s by %d: %s, %s", brief(s), brief(e), mtu, brief(a), brief(g))
				}
				pieces := readAll(t, a.Out)
				wantWithin(t, "what is sent", pieces, mtu)
				wantJoined(t, "what is sent", pieces, made)
			}
		}
	}
}

func TestWhatIsSentByHand(t *testing.T) {
	s := plainFrame(0x0a0b0c0d0e0f, 0x010203040506, 2054, "hi")
	wantText(t, "the frame", s, "\x0a\x0b\x0c\x0d\x0e\x0f\x01\x02\x03\x04\x05\x06\x08\x06hi")
	from := impl.BytesOf(49152+impl.SumOf(s)%16384, 2)
	for kind, text := range map[int64]string{
		impl.KdVxlan:  from + "\x12\xb5\x00\x20\x00\x00" + "\x08\x00\x00\x00\x00\x00\x09\x00" + s,
		impl.KdGeneve: from + "\x17\xc1\x00\x20\x00\x00" + "\x00\x00\x65\x58\x00\x00\x09\x00" + s,
		impl.KdMpls:   from + "\x19\xeb\x00\x20\x00\x00" + "\x00\x00\x91\x40\x00\x00\x00\x00" + s,
		impl.KdGre:    "\x30\x00\x65\x58\x00\x00\x00\x09\x00\x00\x00\x00" + s,
	} {
		_, answers := played(t, endCmd(plainEnd(7, kind)), macCmd(0x0a0b0c0d0e0f, 7), frameCmd(s))
		want := impl.Ip{Ttl: 64, Proto: 17, Src: 0x01020304, Dst: 0x05060708, Data: text}
		if kind == impl.KdGre {
			want.Proto = 47
		}
		if !sameAnswer(answers[2], impl.Answer{Out: []string{impl.IpBytes(want)}, Id: 7}) {
			t.Errorf("kind %d: %q, want %q", kind, answers[2].Out, impl.IpBytes(want))
		}
	}
}

func TestFrameThatIsNone(t *testing.T) {
	ahead := []impl.Cmd{endCmd(plainEnd(7, impl.KdGre)), ternCmd(0, 0, 0, 7)}
	list := []string{"", "x", noughts(13), noughts(14), noughts(mostData), plainFrame(1, 2, 2048, "")[:13], "\x00" + plainFrame(1, 2, 33025, noughts(1500))}
	for _, s := range list {
		wantRefused(t, ahead, frameCmd(s), impl.GwFrame)
		wantRefused(t, nil, frameCmd(s), impl.GwFrame)
	}
	wantRefused(t, nil, frameCmd(plainFrame(1, 2, 2048, "")), impl.GwNone)
}

// Which End a frame goes to, with rules for some of its key, its address and its source.
func TestRuleOfAFrame(t *testing.T) {
	inner := impl.IpBytes(impl.Ip{Ttl: 1, Src: 0x0b000001, Dst: 0x0a010203})
	mac, net, tern := macCmd(5, 1), netCmd(0x0a010000, 16, 2), ternCmd(6, 255, 5, 3)
	tagged := impl.FrameBytes(impl.Frame{Dst: 9, Src: 9, Tags: []int64{7}, Type: 2048, Data: inner})
	for i, r := range []struct {
		rules []impl.Cmd
		frame string
		want  int64
	}{
		{nil, plainFrame(5, 6, 2048, inner), 0},
		{[]impl.Cmd{mac}, plainFrame(5, 9, 2054, ""), 1}, {[]impl.Cmd{mac}, plainFrame(6, 5, 2048, inner), 0}, {[]impl.Cmd{mac, net, tern}, plainFrame(5, 9, 2054, inner), 1},
		{[]impl.Cmd{net}, plainFrame(9, 9, 2048, inner), 2}, {[]impl.Cmd{net}, plainFrame(9, 9, 2054, inner), 0}, {[]impl.Cmd{net}, plainFrame(9, 9, 2048, inner+"x"), 0}, {[]impl.Cmd{net}, plainFrame(9, 9, 2048, ""), 0}, {[]impl.Cmd{net}, tagged, 2},
		{[]impl.Cmd{net}, plainFrame(9, 9, 2048, impl.IpBytes(impl.Ip{Src: 0x0a010203, Dst: 0x0a020203})), 0}, {[]impl.Cmd{net}, plainFrame(9, 9, 2048, impl.IpBytes(impl.Ip{Dst: 0x0a01ffff, Mf: true, Off: 3})), 2},
		{[]impl.Cmd{tern}, plainFrame(9, 6, 2048, inner), 3}, {[]impl.Cmd{tern}, plainFrame(9, 0x0606, 2054, ""), 3}, {[]impl.Cmd{tern}, plainFrame(6, 9, 2054, ""), 0}, {[]impl.Cmd{tern}, plainFrame(9, 6, 2048, "no datagram"), 3},
		{[]impl.Cmd{mac, net}, plainFrame(5, 9, 2048, inner), 1}, {[]impl.Cmd{mac, tern}, plainFrame(5, 6, 2048, inner), 1}, {[]impl.Cmd{net, tern}, plainFrame(9, 6, 2048, inner), 2}, {[]impl.Cmd{mac, net, tern}, plainFrame(5, 6, 2048, inner), 1},
		{[]impl.Cmd{mac, net, tern}, plainFrame(9, 6, 2048, inner), 2}, {[]impl.Cmd{mac, net, tern}, plainFrame(9, 6, 2054, inner), 3}, {[]impl.Cmd{mac, net, tern}, plainFrame(9, 9, 2054, inner), 0}, {[]impl.Cmd{net, tern}, plainFrame(9, 6, 2048, inner[:19]), 3},
		{[]impl.Cmd{net, tern}, plainFrame(9, 6, 2048, impl.IpBytes(impl.Ip{Dst: 7})), 3}, {[]impl.Cmd{netCmd(0, 0, 3), net}, plainFrame(9, 6, 2048, inner), 2}, {[]impl.Cmd{ternCmd(0, 0, 4, 1), tern}, plainFrame(9, 6, 2054, ""), 3}, {[]impl.Cmd{ternCmd(0, 0, 6, 1), tern}, plainFrame(9, 6, 2054, ""), 1},
	} {
		ahead := append(endsUpTo(3), r.rules...)
		if r.want == 0 {
			wantRefused(t, ahead, frameCmd(r.frame), impl.GwNone)
			continue
		}
		_, answers := played(t, append(ahead, frameCmd(r.frame))...)
		want := impl.Answer{Out: []string{impl.IpBytes(plainMade(endAt(r.want), 0, r.frame))}, Id: r.want}
		if a := answers[len(ahead)]; !sameAnswer(a, want) {
			t.Errorf("%d: %s, want %s", i, brief(a), brief(want))
		}
	}
}

func TestNextRisesWithWhatIsSent(t *testing.T) {
	e := changedEnd(impl.KdGre, func(e *impl.End) { e.Df = true })
	s := plainFrame(1, 2, 2054, noughts(100))
	list := []impl.Cmd{endCmd(e), macCmd(1, 7)}
	next := int64(0)
	for i := range 70 {
		switch i % 5 {
		case 1:
			wantRefused(t, list, frameCmd(plainFrame(2, 2, 2054, "")), impl.GwNone)
			list = append(list, frameCmd(plainFrame(2, 2, 2054, "")))
			continue
		case 2:
			wantRefused(t, append(slices.Clone(list), mtuCmd(68)), frameCmd(s), impl.GwMtu)
			continue
		}
		g, answers := played(t, append(list, frameCmd(s))...)
		if a := answers[len(list)]; !sameAnswer(a, impl.Answer{Out: ipsBytes([]impl.Ip{plainMade(e, next, s)}), Id: 7}) || g.Next != next+1 {
			t.Fatalf("frame %d: %s, next %d", next, brief(a), g.Next)
		}
		list = append(list, frameCmd(s))
		next++
	}
}

// Eighty commands do not come to a Next of 65535 either.
func TestNextOfAsManyFramesAsMayBe(t *testing.T) {
	e := plainEnd(7, impl.KdGre)
	s := plainFrame(1, 2, 2054, "hi")
	g, answers := played(t, append([]impl.Cmd{endCmd(e), macCmd(1, 7)}, slices.Repeat([]impl.Cmd{frameCmd(s)}, 78)...)...)
	for i, a := range answers[2:] {
		if !sameAnswer(a, impl.Answer{Out: ipsBytes([]impl.Ip{plainMade(e, int64(i), s)}), Id: 7}) {
			t.Errorf("frame %d: %s", i, brief(a))
		}
	}
	wantNumber(t, "next", g.Next, 78)
}

// With Df what has just as many bytes as Mtu is sent, one more is not.
func TestDfAndMtu(t *testing.T) {
	for _, kind := range allKinds {
		e := changedEnd(kind, func(e *impl.End) { e.Df = true })
		for size := range 100 {
			s := plainFrame(1, 2, 2054, noughts(size))
			made := plainMade(e, 0, s)
			mtu := sizeOf(made)
			if mtu < 68 {
				continue
			}
			_, answers := played(t, endCmd(e), macCmd(1, 7), mtuCmd(mtu), frameCmd(s))
			if a := answers[3]; !sameAnswer(a, impl.Answer{Out: ipsBytes([]impl.Ip{made}), Id: 7}) {
				t.Errorf("%d bytes: %s", mtu, brief(a))
			}
			if mtu > 68 {
				wantRefused(t, []impl.Cmd{endCmd(e), macCmd(1, 7), mtuCmd(mtu - 1)}, frameCmd(s), impl.GwMtu)
			}
		}
	}
}

func mirrored(e impl.End) impl.End {
	e.Local, e.Remote = e.Remote, e.Local
	return e
}

// receivers gives an End of each kind, with Id and kind alike.
func receivers() []impl.Cmd {
	var list []impl.Cmd
	for _, kind := range allKinds {
		list = append(list, endCmd(plainEnd(kind, kind)))
	}
	return list
}

// comes gives a datagram that comes to the receivers.
func comes(proto int64, data string) impl.Ip {
	return impl.Ip{Id: 3, Ttl: 9, Proto: proto, Src: thereAddr, Dst: hereAddr, Data: data}
}

func comesAt(port int64, data string) impl.Ip {
	return comes(17, impl.UdpBytes(thereAddr, hereAddr, impl.Udp{From: 1, To: port, Sum: true, Data: data}))
}

func TestWireThatIsNoDatagram(t *testing.T) {
	good := impl.IpBytes(comesAt(4789, impl.VxlanBytes(9, plainFrame(1, 2, 2054, ""))))
	for _, s := range []string{"", "x", noughts(20), good[:19], good[:len(good)-1], good + "x", with(good, 10, good[10]+1), with(good, 0, 0x65), noughts(mostData)} {
		wantRefused(t, receivers(), wireCmd(s), impl.GwIp)
		wantRefused(t, nil, wireCmd(s), impl.GwIp)
	}
}

func TestWireToNoEnd(t *testing.T) {
	for _, mf := range []bool{false, true} {
		for _, pair := range [][2]int64{{hereAddr, thereAddr}, {thereAddr, thereAddr}, {hereAddr, hereAddr}, {thereAddr, hereAddr + 1}, {thereAddr + 1, hereAddr}, {0, 0}} {
			p := comes(47, "12345678")
			p.Src, p.Dst, p.Mf = pair[0], pair[1], mf
			wantRefused(t, receivers(), wireCmd(impl.IpBytes(p)), impl.GwTo)
			wantRefused(t, nil, wireCmd(impl.IpBytes(p)), impl.GwTo)
		}
	}
	// Addresses of two Ends, one of each, are no End's.
	p := comes(47, "")
	p.Src = 77
	wantRefused(t, append(receivers(), endCmd(impl.End{Id: 9, Kind: impl.KdGre, Local: 66, Remote: 77})), wireCmd(impl.IpBytes(p)), impl.GwTo)
}

// A wireCase is a datagram and what is answered.
type wireCase struct {
	what string
	p    impl.Ip
	code int64
	id   int64
}

func portCases() []wireCase {
	tunnel := impl.VxlanBytes(9, plainFrame(1, 2, 2054, ""))
	other := comesAt(4789, tunnel)
	other.Data = with(other.Data, 9, other.Data[9]+1)
	short := comes(17, comesAt(4789, tunnel).Data[:7])
	list := []wireCase{{"another sum", other, impl.GwPort, 0}, {"seven bytes of a port", short, impl.GwPort, 0}, {"nothing of a port", comes(17, ""), impl.GwPort, 0}, {"addresses of another", comes(17, impl.UdpBytes(thereAddr, hereAddr+1, impl.Udp{To: 4789, Sum: true, Data: tunnel})), impl.GwPort, 0}}
	for _, proto := range []int64{0, 1, 6, 16, 18, 46, 48, 50, 255} {
		list = append(list, wireCase{fmt.Sprint("proto ", proto), comes(proto, comesAt(4789, tunnel).Data), impl.GwPort, 0})
	}
	for _, port := range []int64{0, 1, 80, 4788, 4790, 6080, 6082, 6634, 6636, 47, 49152, 65535} {
		list = append(list, wireCase{fmt.Sprint("port ", port), comesAt(port, tunnel), impl.GwPort, 0})
	}
	return list
}

func tunnelCases() []wireCase {
	s := plainFrame(1, 2, 2054, "hi")
	sum := impl.GreBytes(impl.Gre{Sum: true, HasKey: true, Key: 9, Data: s})
	list := []wireCase{
		{"nothing in Gre", comes(47, ""), impl.GwTun, 0}, {"Gre without a key", comes(47, impl.GreBytes(impl.Gre{Data: s})), impl.GwTun, 0}, {"Gre with a number alone", comes(47, impl.GreBytes(impl.Gre{HasSeq: true, Seq: 9, Data: s})), impl.GwTun, 0},
		{"a key of 2 to the 24th", comes(47, impl.GreBytes(impl.Gre{HasKey: true, Key: netEnd, Data: s})), impl.GwTun, 0}, {"the greatest key", comes(47, impl.GreBytes(impl.Gre{HasKey: true, Key: addrEnd - 1, Data: s})), impl.GwTun, 0},
		{"a net in the low 24 bits of a key", comes(47, impl.GreBytes(impl.Gre{HasKey: true, Key: netEnd + 9, Data: s})), impl.GwTun, 0}, {"another sum of Gre", comes(47, with(sum, 4, sum[4]+1)), impl.GwTun, 0},
		{"the greatest net as a key", comes(47, impl.GreBytes(impl.Gre{HasKey: true, Key: netEnd - 1, Data: s})), impl.GwNet, 0},
		{"a critical option of no known class", comesAt(6081, impl.GeneveBytes(9, []impl.Opt{{Class: 258, Type: 128}}, s)), impl.GwTun, 0}, {"such a one behind others", comesAt(6081, impl.GeneveBytes(9, []impl.Opt{{Class: 259, Type: 128}, {Class: 7, Type: 255}}, s)), impl.GwTun, 0},
		{"Vxlan at the port of Geneve", comesAt(6081, impl.VxlanBytes(9, s)), impl.GwTun, 0}, {"Geneve at the port of Vxlan", comesAt(4789, impl.GeneveBytes(9, nil, s)), impl.GwTun, 0}, {"Mpls at the port of Vxlan", comesAt(4789, impl.MplsBytes([]impl.Label{{Label: 9}}, s)), impl.GwTun, 0}, {"Mpls at the port of Geneve", comesAt(6081, impl.MplsBytes([]impl.Label{{Label: 9}}, s)), impl.GwTun, 0},
		{"Gre at the port of Geneve", comesAt(6081, sum), impl.GwTun, 0}, {"no end of labels", comesAt(6635, "\x00\x00\x90\x40"), impl.GwTun, 0}, {"five labels", comesAt(6635, noughts(16)+impl.MplsBytes([]impl.Label{{Label: 9}}, s)), impl.GwTun, 0},
	}
	for _, port := range []int64{4789, 6081, 6635} {
		list = append(list, wireCase{fmt.Sprint("nothing at ", port), comesAt(port, ""), impl.GwTun, 0}, wireCase{fmt.Sprint("seven noughts at ", port), comesAt(port, noughts(7)), impl.GwTun, 0})
	}
	return list
}

// tunnelsOf gives what comes to a kind of a net, with some bytes in it.
func tunnelsOf(kind int64, net int64, s string) []impl.Ip {
	switch kind {
	case impl.KdVxlan:
		return []impl.Ip{comesAt(4789, impl.VxlanBytes(net, s)), comes(17, impl.UdpBytes(thereAddr, hereAddr, impl.Udp{To: 4789, Data: impl.VxlanBytes(net, s)}))}
	case impl.KdGeneve:
		return []impl.Ip{comesAt(6081, impl.GeneveBytes(net, nil, s)), comesAt(6081, impl.GeneveBytes(net, []impl.Opt{{Class: 259, Type: 128, Data: "abcd"}, {Class: 1, Type: 127}}, s))}
	case impl.KdGre:
		return []impl.Ip{comes(47, impl.GreBytes(impl.Gre{HasKey: true, Key: net, Data: s})), comes(47, impl.GreBytes(impl.Gre{Sum: true, HasKey: true, Key: net, HasSeq: true, Seq: 77, Data: s}))}
	}
	return []impl.Ip{comesAt(6635, impl.MplsBytes([]impl.Label{{Label: net, Tc: 5, Ttl: 1}}, s)), comesAt(6635, impl.MplsBytes([]impl.Label{{Label: 8}, {Label: 7, Tc: 1, Ttl: 255}, {Label: net}}, s))}
}

func innerCases() []wireCase {
	var list []wireCase
	for _, kind := range allKinds {
		for _, net := range []int64{0, 8, 10, labelEnd - 1} {
			for _, p := range tunnelsOf(kind, net, plainFrame(1, 2, 2054, "hi")) {
				list = append(list, wireCase{fmt.Sprintf("kind %d of net %d", kind, net), p, impl.GwNet, 0})
			}
			for _, p := range tunnelsOf(kind, net, "no frame") {
				list = append(list, wireCase{fmt.Sprintf("kind %d of net %d, and no frame", kind, net), p, impl.GwNet, 0})
			}
		}
		for _, s := range []string{"", "no frame", noughts(14), plainFrame(1, 2, 2054, noughts(1500)) + "x"} {
			for _, p := range tunnelsOf(kind, 9, s) {
				list = append(list, wireCase{fmt.Sprintf("kind %d without a frame", kind), p, impl.GwInner, 0})
			}
		}
		for _, s := range sendingFrames() {
			for _, p := range tunnelsOf(kind, 9, s) {
				list = append(list, wireCase{s, p, impl.GwOk, kind})
			}
		}
	}
	return list
}

func allWireCases() []wireCase {
	return append(append(portCases(), tunnelCases()...), innerCases()...)
}

func wantWire(t *testing.T, c wireCase, a impl.Answer) {
	t.Helper()
	want := impl.Answer{Code: c.code, Id: c.id}
	if c.code == impl.GwOk {
		want.Data = c.what
	}
	if !sameAnswer(a, want) {
		t.Errorf("%s: %s, want %d and %d", brief(c.what), brief(a), c.code, c.id)
	}
}

func TestWhatComesWhole(t *testing.T) {
	ahead := receivers()
	before, _ := played(t, ahead...)
	for _, c := range allWireCases() {
		g, answers := played(t, append(slices.Clone(ahead), wireCmd(impl.IpBytes(c.p)))...)
		wantWire(t, c, answers[len(ahead)])
		if !sameGate(g, before) {
			t.Errorf("%s: %s", brief(c.what), brief(g))
		}
	}
}

// A net of another kind, or of other addresses, is no net of an End.
func TestNetOfAnotherEnd(t *testing.T) {
	s := plainFrame(1, 2, 2054, "hi")
	for _, kind := range allKinds {
		var ahead []impl.Cmd
		for _, other := range allKinds {
			if other != kind {
				ahead = append(ahead, endCmd(plainEnd(other, other)))
			}
		}
		ahead = append(ahead, endCmd(changedEnd(kind, func(e *impl.End) { e.Remote = 77 })), endCmd(changedEnd(kind, func(e *impl.End) { e.Id, e.Local = 8, 77 })), endCmd(mirrored(plainEnd(9, kind))))
		for _, p := range tunnelsOf(kind, 9, s) {
			wantRefused(t, ahead, wireCmd(impl.IpBytes(p)), impl.GwNet)
			_, answers := played(t, append(slices.Clone(ahead), endCmd(plainEnd(50, kind)), wireCmd(impl.IpBytes(p)))...)
			wantWire(t, wireCase{s, p, impl.GwOk, 50}, answers[len(ahead)+1])
		}
	}
}

// What comes in pieces: Buf waits for the last one that lacks, and is without them then, whatever the datagram has.
func TestWhatComesInPieces(t *testing.T) {
	ahead := receivers()
	m := maker{state: 96}
	empty, _ := played(t, ahead...)
	for _, c := range allWireCases() {
		pieces, _ := impl.Fragments(c.p, 68)
		if len(pieces) < 2 || len(pieces) > 16 {
			continue
		}
		list := slices.Clone(ahead)
		var b impl.Buf
		order := shuffled(&m, len(pieces))
		for i, at := range order {
			// One that is there already comes once more.
			for _, at := range []int{order[m.below(int64(i)+1)], at} {
				if at == order[i] && i == len(order)-1 {
					continue
				}
				b, _, _ = impl.Offer(b, pieces[at], 0)
				list = append(list, wireCmd(impl.IpBytes(pieces[at])))
				g, answers := played(t, list...)
				if a := answers[len(list)-1]; !sameAnswer(a, impl.Answer{Code: impl.GwWait}) || !sameBuf(g.Buf, b) || len(g.Buf.Entries) != 1 {
					t.Fatalf("%s: %s, %s", brief(c.what), brief(a), brief(g.Buf))
				}
			}
		}
		last := pieces[order[len(order)-1]]
		g, answers := played(t, append(list, wireCmd(impl.IpBytes(last)))...)
		wantWire(t, c, answers[len(list)])
		if !sameGate(g, empty) {
			t.Errorf("%s: %s", brief(c.what), brief(g))
		}
	}
}

// pieceOf gives bytes at 8 times off of what comes with an id.
func pieceOf(id int64, off int64, mf bool, data string) impl.Ip {
	p := comes(47, data)
	p.Id, p.Off, p.Mf = id, off, mf
	return p
}

func wires(l ...impl.Ip) []impl.Cmd {
	var list []impl.Cmd
	for _, p := range l {
		list = append(list, wireCmd(impl.IpBytes(p)))
	}
	return list
}

// What Offer refuses leaves Buf as it was; what is too long takes its entry along.
func TestPiecesThatAreRefused(t *testing.T) {
	ahead := append(receivers(), wires(pieceOf(1, 0, true, "12345678"), pieceOf(2, 5, false, "abc"), pieceOf(3, 2, true, noughts(800)))...)
	wantRefused(t, ahead, wires(pieceOf(2, 5, false, "ab"))[0], impl.GwBuf)
	wantRefused(t, ahead, wires(pieceOf(2, 5, false, "abcd"))[0], impl.GwBuf)
	wantRefused(t, ahead, wires(pieceOf(2, 5, true, "12345678"))[0], impl.GwBuf)
	wantRefused(t, ahead, wires(pieceOf(3, 2, false, "12345678"))[0], impl.GwBuf)
	full := append(slices.Clone(ahead), wires(pieceOf(4, 9, true, ""))...)
	g, answers := played(t, full...)
	if len(g.Buf.Entries) != 4 || answers[len(full)-1].Code != impl.GwWait {
		t.Errorf("four that wait: %s", brief(g.Buf))
	}
	wantRefused(t, full, wires(pieceOf(5, 0, true, "12345678"))[0], impl.GwBuf)
	wantRefused(t, full, wires(pieceOf(5, 1, false, ""))[0], impl.GwBuf)
	gaps := receivers()
	for i := range int64(16) {
		gaps = append(gaps, wires(pieceOf(1, 2*i+1, true, "12345678"))...)
	}
	wantRefused(t, gaps, wires(pieceOf(1, 33, true, "12345678"))[0], impl.GwBuf)
	first := pieceOf(1, 0, true, noughts(39936))
	first.Opts = noughts(40)
	long := append(full[:4:4], wires(first)...)
	g, answers = played(t, append(long, wires(pieceOf(1, 4992, false, noughts(65515-39936)))...)...)
	if before, _ := played(t, full[:4]...); !sameAnswer(answers[5], impl.Answer{Code: impl.GwBuf}) || !sameGate(g, before) {
		t.Errorf("too long: %s, %s", brief(answers[5]), brief(g))
	}
	// With 40 bytes less it is whole.
	_, answers = played(t, append(long, wires(pieceOf(1, 4992, false, noughts(65515-39936-40)))...)...)
	if !sameAnswer(answers[5], impl.Answer{Code: impl.GwTun}) {
		t.Errorf("just as long as may be: %s", brief(answers[5]))
	}
}

func TestPiecesWaitForTicks(t *testing.T) {
	s := plainFrame(1, 2, 2054, noughts(60))
	pieces, _ := impl.Fragments(tunnelsOf(impl.KdGre, 9, s)[0], 68)
	list := append(receivers(), tickCmd(10))
	list = append(list, wires(pieces[0])...)
	for _, n := range []int64{1, 29} {
		g := wantDone(t, list, tickCmd(n))
		if len(g.Buf.Entries) != 1 || g.Buf.Entries[0].Until != 40 || g.Now != 10+n {
			t.Errorf("%d later: %s", n, brief(g))
		}
		_, answers := played(t, append(append(slices.Clone(list), tickCmd(n)), wires(pieces[1:]...)...)...)
		wantWire(t, wireCase{s, pieces[1], impl.GwOk, impl.KdGre}, answers[len(answers)-1])
	}
	for _, n := range []int64{30, 31, 1000} {
		if g := wantDone(t, list, tickCmd(n)); len(g.Buf.Entries) != 0 {
			t.Errorf("%d later: %s", n, brief(g))
		}
		g, answers := played(t, append(append(slices.Clone(list), tickCmd(n)), wires(pieces[1:]...)...)...)
		if a := answers[len(answers)-1]; !sameAnswer(a, impl.Answer{Code: impl.GwWait}) || g.Buf.Entries[0].Until != 40+n {
			t.Errorf("%d later: %s, %s", n, brief(a), brief(g))
		}
	}
}

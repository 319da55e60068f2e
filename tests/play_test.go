package tests

import (
	"fmt"
	"slices"
	"strings"
	"testing"

	"loop.example/g00675/impl"
)

// A plainGate does what the tables of the chapter tell, a kind at a time.
type plainGate struct {
	gate impl.Gate
}

func (g *plainGate) play(c impl.Cmd) impl.Answer {
	if !impl.CmdOk(c) {
		return impl.Answer{Code: impl.GwForm}
	}
	switch c.Kind {
	case impl.GcEnd:
		return impl.Answer{Code: g.playEnd(c.E)}
	case impl.GcMac, impl.GcNet, impl.GcTern:
		return impl.Answer{Code: g.playRule(c)}
	case impl.GcMtu:
		g.gate.Mtu = c.A
		return impl.Answer{}
	case impl.GcTick:
		g.gate.Now += c.A
		g.gate.Buf, _ = impl.Expired(g.gate.Buf, g.gate.Now)
		return impl.Answer{}
	case impl.GcFrame:
		return g.playFrame(c.Data)
	}
	return g.playWire(c.Data)
}

func (g *plainGate) playEnd(e impl.End) int64 {
	for _, other := range g.gate.Ends {
		if other.Id == e.Id || other.Kind == e.Kind && other.Local == e.Local && other.Remote == e.Remote && other.Net == e.Net {
			return impl.GwId
		}
	}
	if len(g.gate.Ends) == 16 {
		return impl.GwFull
	}
	g.gate.Ends = append(g.gate.Ends, e)
	return impl.GwOk
}

func (g *plainGate) endOf(id int64) (impl.End, bool) {
	for _, e := range g.gate.Ends {
		if e.Id == id {
			return e, true
		}
	}
	return impl.End{}, false
}

func (g *plainGate) playRule(c impl.Cmd) int64 {
	if _, ok := g.endOf([]int64{c.B, c.C, c.D}[c.Kind-impl.GcMac]); !ok {
		return impl.GwId
	}
	next, code := g.gate, int64(0)
	switch c.Kind {
	case impl.GcMac:
		next.Exacts, code = impl.ExactPut(next.Exacts, c.A, c.B)
	case impl.GcNet:
		next.Prefixes, code = impl.PrefixPut(next.Prefixes, c.A, c.B, c.C)
	case impl.GcTern:
		next.Terns, code = impl.TernPut(next.Terns, c.A, c.B, c.C, c.D)
	}
	if code == impl.TbFull {
		return impl.GwFull
	}
	g.gate = next
	return impl.GwOk
}

func (g *plainGate) playFrame(s string) impl.Answer {
	f, ok := impl.ReadFrame(s)
	if !ok {
		return impl.Answer{Code: impl.GwFrame}
	}
	act := plainExact(g.gate.Exacts, f.Dst)
	if p, code := impl.ReadIp(f.Data); act == 0 && f.Type == 2048 && code == impl.InOk {
		act = plainPrefix(g.gate.Prefixes, p.Dst)
	}
	if act == 0 {
		act = plainTern(g.gate.Terns, f.Src)
	}
	if act == 0 {
		return impl.Answer{Code: impl.GwNone}
	}
	e, _ := g.endOf(act)
	pieces, code := impl.Fragments(plainMade(e, g.gate.Next, s), g.gate.Mtu)
	if code != impl.FrOk {
		return impl.Answer{Code: impl.GwMtu}
	}
	g.gate.Next++
	return impl.Answer{Out: ipsBytes(pieces), Id: e.Id}
}

func (g *plainGate) playWire(s string) impl.Answer {
	p, code := impl.ReadIp(s)
	if code != impl.InOk {
		return impl.Answer{Code: impl.GwIp}
	}
	if !slices.ContainsFunc(g.gate.Ends, func(e impl.End) bool { return e.Local == p.Dst && e.Remote == p.Src }) {
		return impl.Answer{Code: impl.GwTo}
	}
	g.gate.Buf, p, code = impl.Offer(g.gate.Buf, p, g.gate.Now)
	if code == impl.BfWait {
		return impl.Answer{Code: impl.GwWait}
	}
	if code != impl.BfDone {
		return impl.Answer{Code: impl.GwBuf}
	}
	u, isUdp := impl.ReadUdp(p.Src, p.Dst, p.Data)
	kind := map[int64]int64{4789: impl.KdVxlan, 6081: impl.KdGeneve, 6635: impl.KdMpls}[u.To]
	if p.Proto == 47 {
		kind, u.Data = impl.KdGre, p.Data
	} else if p.Proto != 17 || !isUdp || kind == 0 {
		return impl.Answer{Code: impl.GwPort}
	}
	net, inner, ok := plainTunnel(kind, u.Data)
	if !ok {
		return impl.Answer{Code: impl.GwTun}
	}
	for _, e := range g.gate.Ends {
		if e.Local == p.Dst && e.Remote == p.Src && e.Kind == kind && e.Net == net {
			if _, ok := impl.ReadFrame(inner); !ok {
				return impl.Answer{Code: impl.GwInner}
			}
			return impl.Answer{Id: e.Id, Data: inner}
		}
	}
	return impl.Answer{Code: impl.GwNet}
}

func plainTunnel(kind int64, s string) (int64, string, bool) {
	switch kind {
	case impl.KdVxlan:
		return impl.ReadVxlan(s)
	case impl.KdGeneve:
		net, _, data, code := impl.ReadGeneve(s)
		return net, data, code == impl.TnOk
	case impl.KdGre:
		g, code := impl.ReadGre(s)
		return g.Key, g.Data, code == impl.TnOk && g.HasKey && g.Key < netEnd
	}
	l, data, code := impl.ReadMpls(s)
	if code != impl.TnOk {
		return 0, "", false
	}
	return l[len(l)-1].Label, data, true
}

// A player makes commands that have to do with each other: few Ends, few keys, and what comes to the Ends.
type player struct {
	maker
	pieces []string
}

func (m *player) one(l ...int64) int64 {
	return l[m.below(int64(len(l)))]
}

func (m *player) end() impl.End {
	e := impl.End{Id: 1 + m.below(20), Kind: 1 + m.below(4), Local: m.below(2), Remote: 10 + m.below(2), Net: m.below(3), Df: m.below(4) == 0, Sum: m.below(2) == 0}
	if e.Kind == impl.KdGeneve && m.below(2) == 0 {
		e.Opts = []impl.Opt{{Class: m.one(1, 259), Type: m.one(0, 127, 128), Data: m.text(4)}}
	}
	return e
}

func (m *player) frame() string {
	if m.below(8) == 0 {
		return m.text(int(m.below(20)))
	}
	data := m.text(int(m.one(0, 1, 40, 200)))
	if m.below(2) == 0 {
		data = impl.IpBytes(impl.Ip{Dst: m.below(4) << 24, Data: data})
	}
	return plainFrame(m.below(4), m.below(4), m.one(2048, 2054), data)
}

// What an End like those of end would send here, at times with a wrong thing in it.
func (m *player) datagram() impl.Ip {
	e := m.end()
	inner := m.frame()
	made := plainMade(mirrored(e), m.below(4), inner)
	switch m.below(12) {
	case 0:
		made.Proto = m.one(6, 17, 47)
	case 1:
		made.Data = impl.UdpBytes(made.Src, made.Dst, impl.Udp{To: m.one(80, 4789, 6081, 6635), Data: m.text(int(m.below(20)))})
	case 2:
		made.Proto, made.Data = 47, impl.GreBytes(impl.Gre{HasSeq: true, HasKey: true, Key: m.one(0, netEnd, netEnd+1), Data: inner})
	case 3:
		made.Proto, made.Data = 47, impl.GreBytes(impl.Gre{Data: inner})
	case 4:
		made.Src = 12
	}
	return made
}

func (m *player) wire() string {
	made := m.datagram()
	if m.below(12) == 0 {
		return m.text(int(m.below(30)))
	}
	if m.below(3) == 0 {
		return impl.IpBytes(made)
	}
	if m.below(3) == 0 {
		// A piece of nothing that was sent: what is known of the datagram may not go with it.
		return impl.IpBytes(impl.Ip{Id: m.below(2), Proto: 47, Src: 10 + m.below(2), Dst: m.below(2), Off: m.below(4), Mf: m.below(2) > 0, Data: m.text(int(8 * m.below(4)))})
	}
	if len(m.pieces) == 0 || m.below(4) == 0 {
		made.Df = false
		cut, _ := impl.Fragments(made, m.one(68, 100, 150))
		m.pieces = append(m.pieces, ipsBytes(cut)...)
	}
	at := int(m.below(int64(len(m.pieces))))
	s := m.pieces[at]
	if m.below(3) > 0 {
		m.pieces = slices.Delete(m.pieces, at, at+1)
	}
	return s
}

func (m *player) cmd() impl.Cmd {
	switch m.below(16) {
	case 0:
		return impl.Cmd{Kind: m.below(10), A: m.below(3)}
	case 1, 2, 3:
		return endCmd(m.end())
	case 4:
		return macCmd(m.below(4), 1+m.below(20))
	case 5:
		return netCmd(m.below(4)<<24, m.one(0, 6, 7, 8, 32), 1+m.below(20))
	case 6:
		mask := m.below(4)
		return ternCmd(m.below(4)&mask, mask, m.below(3), 1+m.below(20))
	case 7:
		return mtuCmd(m.one(67, 68, 80, 100, 300, 1500))
	case 8:
		return tickCmd(m.one(1, 5, 20, 31))
	case 9, 10, 11:
		return frameCmd(m.frame())
	}
	return wireCmd(m.wire())
}

func (m *player) list(size int) []impl.Cmd {
	m.pieces = nil
	var list []impl.Cmd
	// Without some Ends ahead of all little else comes of it.
	for range min(size, 12) {
		list = append(list, endCmd(m.end()))
	}
	for len(list) < size {
		list = append(list, m.cmd())
	}
	return list
}

func TestPlayAgainstPlainGates(t *testing.T) {
	m := player{maker: maker{state: 97}}
	codes := make([]int, 15)
	for range 400 {
		list := m.list(80)
		plain := plainGate{impl.Gate{Mtu: 1500}}
		g, answers := played(t, list...)
		for i, c := range list {
			want := plain.play(c)
			if !sameAnswer(answers[i], want) {
				t.Fatalf("command %d, %s: %s, want %s", i, brief(c), brief(answers[i]), brief(want))
			}
			codes[want.Code]++
			if i == 39 {
				if half, _ := played(t, list[:40]...); !sameGate(half, plain.gate) {
					t.Fatalf("behind 40 commands: %s, want %s", brief(half), brief(plain.gate))
				}
			}
		}
		if !sameGate(g, plain.gate) {
			t.Fatalf("%s, want %s", brief(g), brief(plain.gate))
		}
	}
	for code, n := range codes {
		// Full tables and sixteen Ends have tests of their own.
		if n < 20 && code != impl.GwFull {
			t.Errorf("code %d came %d times", code, n)
		}
	}
}

// Promise 9: a command that is refused with a code ahead of GwWait changes nothing, so that without it all else is the same.
func TestRefusedCommandsChangeNothing(t *testing.T) {
	m := player{maker: maker{state: 98}}
	refused := make([]int, 15)
	for range 60 {
		list := m.list(60)
		g, answers := played(t, list...)
		for i, a := range answers {
			if a.Code == impl.GwOk || a.Code >= impl.GwWait {
				continue
			}
			refused[a.Code]++
			if !sameAnswer(a, impl.Answer{Code: a.Code}) {
				t.Errorf("%s tells more than a code", brief(a))
			}
			less, others := played(t, slices.Delete(slices.Clone(list), i, i+1)...)
			if !sameGate(g, less) || !slices.EqualFunc(others, slices.Delete(slices.Clone(answers), i, i+1), sameAnswer) {
				t.Fatalf("%s, refused with %d, changes something", brief(list[i]), a.Code)
			}
		}
	}
	for _, code := range []int64{impl.GwForm, impl.GwId, impl.GwFrame, impl.GwNone, impl.GwMtu, impl.GwIp, impl.GwTo} {
		if refused[code] < 10 {
			t.Errorf("code %d came %d times", code, refused[code])
		}
	}
}

// Answers stay when more commands stand behind them.
func TestAnswersStayWithMoreCommands(t *testing.T) {
	m := player{maker: maker{state: 99}}
	for range 20 {
		list := m.list(80)
		_, all := played(t, list...)
		for size := range 80 {
			if _, answers := played(t, list[:size]...); !slices.EqualFunc(answers, all[:size], sameAnswer) {
				t.Fatalf("the answers to %d commands are others with 80", size)
			}
		}
	}
}

// Promise 9: what is sent, by any gate.
func TestWhatIsSentTiles(t *testing.T) {
	m := player{maker: maker{state: 100}}
	sent := 0
	for range 200 {
		list := m.list(60)
		_, answers := played(t, list...)
		mtu := int64(1500)
		for i, c := range list {
			if c.Kind == impl.GcMtu && answers[i].Code == impl.GwOk {
				mtu = c.A
			}
			if len(answers[i].Out) == 0 {
				continue
			}
			sent++
			pieces := readAll(t, answers[i].Out)
			wantWithin(t, brief(c), pieces, mtu)
			if !impl.Tiles(pieces) || pieces[0].Off != 0 || pieces[len(pieces)-1].Mf {
				t.Errorf("%s is sent as %s", brief(c), brief(pieces))
			}
		}
	}
	if sent < 300 {
		t.Errorf("only %d were sent", sent)
	}
}

// What one gate sends comes out at one with mirrored Ends.
func TestFrameComesOutAtTheOtherEnd(t *testing.T) {
	m := maker{state: 101}
	for _, e := range sendingEnds() {
		for _, s := range sendingFrames() {
			_, answers := played(t, endCmd(e), macCmd(1, 7), mtuCmd(300), frameCmd(s))
			out := answers[3].Out
			list := []impl.Cmd{endCmd(mirrored(e))}
			for _, at := range shuffled(&m, len(out)) {
				list = append(list, wireCmd(out[at]))
			}
			g, answers := played(t, list...)
			for i, a := range answers[1:] {
				want := impl.Answer{Code: impl.GwWait}
				if i == len(out)-1 {
					want = impl.Answer{Id: 7, Data: s}
				}
				if slices.Contains(e.Opts, impl.Opt{Class: 7, Type: 200}) && i == len(out)-1 {
					want = impl.Answer{Code: impl.GwTun}
				}
				if !sameAnswer(a, want) {
					t.Errorf("%s by %s: %s, want %s", brief(s), brief(e), brief(a), brief(want))
				}
			}
			if len(g.Buf.Entries) != 0 {
				t.Errorf("%s by %s: %s waits", brief(s), brief(e), brief(g.Buf))
			}
		}
	}
}

func cloneCmds(list []impl.Cmd) []impl.Cmd {
	out := slices.Clone(list)
	for i := range out {
		out[i].E.Opts = slices.Clone(out[i].E.Opts)
		for j := range out[i].E.Opts {
			out[i].E.Opts[j].Data = strings.Clone(out[i].E.Opts[j].Data)
		}
		out[i].Data = strings.Clone(out[i].Data)
	}
	return out
}

func cmdTexts(list []impl.Cmd) []string {
	var out []string
	for _, c := range list {
		out = append(out, c.Data)
		for _, o := range c.E.Opts {
			out = append(out, o.Data)
		}
	}
	return out
}

func gateTexts(g impl.Gate) []string {
	out := bufTexts(g.Buf)
	for _, e := range g.Ends {
		for _, o := range e.Opts {
			out = append(out, o.Data)
		}
	}
	return out
}

func answerTexts(answers []impl.Answer) []string {
	var out []string
	for _, a := range answers {
		out = append(append(out, a.Out...), a.Data)
	}
	return out
}

// spoilAll writes all over what Play answers, and over the room behind its lists.
func spoilAll(g impl.Gate, answers []impl.Answer) {
	for _, e := range g.Ends {
		spoilOpts(e.Opts)
	}
	clear(g.Ends[:cap(g.Ends)])
	clear(g.Exacts[:cap(g.Exacts)])
	clear(g.Prefixes[:cap(g.Prefixes)])
	clear(g.Terns[:cap(g.Terns)])
	spoil(g.Buf)
	for _, a := range answers {
		clear(a.Out[:cap(a.Out)])
	}
	clear(answers[:cap(answers)])
}

// putOptRoom gives each list of options room behind it, where something stands.
func putOptRoom(list []impl.Cmd) {
	for i := range list {
		opts := append(list[i].E.Opts, impl.Opt{Class: 5, Data: "room"})
		list[i].E.Opts = opts[:len(opts)-1]
	}
}

// wantOptRoom: what putOptRoom gave stands there still.
func wantOptRoom(t *testing.T, what string, list []impl.Cmd) {
	t.Helper()
	for _, c := range list {
		if opts := c.E.Opts[:len(c.E.Opts)+1]; opts[len(opts)-1] != (impl.Opt{Class: 5, Data: "room"}) {
			t.Fatalf("%s: the room behind options was written: %v", what, opts)
		}
	}
}

// Promise 15, of gateways.
func TestPlayStaysAndIsNewMemory(t *testing.T) {
	m := player{maker: maker{state: 102}}
	for round := range 60 {
		room := cloneCmds(m.list(70))
		putOptRoom(room)
		list := room[:60]
		kept := cloneCmds(room)
		g, answers := played(t, list...)
		what := fmt.Sprint("round ", round)
		wantApart(t, what, append(gateTexts(g), answerTexts(answers)...), cmdTexts(list))
		spoilAll(g, answers)
		if !slices.EqualFunc(room, kept, sameCmd) {
			t.Fatalf("%s: the commands are others now", what)
		}
		wantOptRoom(t, what, room)
		first, firstAnswers := played(t, list...)
		second, secondAnswers := played(t, kept[:60]...)
		if !sameGate(first, second) || !slices.EqualFunc(firstAnswers, secondAnswers, sameAnswer) {
			t.Fatalf("%s: the same commands are answered otherwise", what)
		}
	}
}

// What is spoilt in one list of an answer is not seen in another one of it.
func TestListsOfPlayAreApart(t *testing.T) {
	opts := []impl.Opt{{Class: 1, Data: "abcd"}}
	one := changedEnd(impl.KdGeneve, func(e *impl.End) { e.Opts = opts })
	two := one
	two.Id, two.Net = 8, 10
	list := []impl.Cmd{endCmd(one), endCmd(two), macCmd(1, 7), mtuCmd(68), frameCmd(plainFrame(1, 2, 2054, noughts(100))), frameCmd(plainFrame(1, 2, 2054, noughts(100)))}
	g, answers := played(t, list...)
	want, wantAnswers := played(t, list...)
	spoilOpts(g.Ends[0].Opts)
	clear(answers[4].Out[:cap(answers[4].Out)])
	clear(g.Exacts[:cap(g.Exacts)])
	if !sameEnd(g.Ends[1], want.Ends[1]) || !sameAnswer(answers[5], wantAnswers[5]) || opts[0] != (impl.Opt{Class: 1, Data: "abcd"}) {
		t.Errorf("%v, %v", g.Ends, opts)
	}
}

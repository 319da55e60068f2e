package tests

import (
	"fmt"
	"slices"
	"strings"
	"testing"

	"loop.example/g00675/impl"
)

const (
	hereAddr  = 0x01020304
	thereAddr = 0x05060708
	mostData  = 40000
)

var allKinds = []int64{impl.KdVxlan, impl.KdGeneve, impl.KdGre, impl.KdMpls}

func TestGatewayNumbers(t *testing.T) {
	for want, code := range []int64{impl.GwOk, impl.GwForm, impl.GwId, impl.GwFull, impl.GwFrame, impl.GwNone, impl.GwMtu, impl.GwIp, impl.GwTo, impl.GwWait, impl.GwBuf, impl.GwPort, impl.GwTun, impl.GwNet, impl.GwInner} {
		wantNumber(t, "a code of gateways", code, int64(want))
	}
	for i, kind := range []int64{impl.GcEnd, impl.GcMac, impl.GcNet, impl.GcTern, impl.GcMtu, impl.GcTick, impl.GcFrame, impl.GcWire} {
		wantNumber(t, "a kind of commands", kind, int64(i+1))
	}
	for i, kind := range allKinds {
		wantNumber(t, "a kind of tunnels", kind, int64(i+1))
	}
	wantNumber(t, "MaxMtu", impl.MaxMtu, 1500)
	wantNumber(t, "MaxEnds", impl.MaxEnds, 16)
	wantNumber(t, "MaxCmds", impl.MaxCmds, 80)
}

// plainEnd gives an End of a kind, without flags and options.
func plainEnd(id int64, kind int64) impl.End {
	return impl.End{Id: id, Kind: kind, Local: hereAddr, Remote: thereAddr, Net: 9}
}

func changedEnd(kind int64, change func(e *impl.End)) impl.End {
	e := plainEnd(7, kind)
	change(&e)
	return e
}

func goodEnds() []impl.End {
	var list []impl.End
	for _, kind := range allKinds {
		for _, id := range []int64{1, 2, 50, 98, 99} {
			list = append(list, plainEnd(id, kind))
		}
		for _, addr := range []int64{0, 1, 1 << 31, addrEnd - 1} {
			list = append(list, changedEnd(kind, func(e *impl.End) { e.Local = addr }), changedEnd(kind, func(e *impl.End) { e.Remote = addr }), changedEnd(kind, func(e *impl.End) { e.Local, e.Remote = addr, addr }))
		}
		for _, net := range []int64{0, 1, labelEnd - 2, labelEnd - 1, labelEnd, labelEnd + 1, 1 << 23, netEnd - 2, netEnd - 1} {
			if kind != impl.KdMpls || net < labelEnd {
				list = append(list, changedEnd(kind, func(e *impl.End) { e.Net = net }))
			}
		}
		list = append(list, changedEnd(kind, func(e *impl.End) { e.Df = true }), changedEnd(kind, func(e *impl.End) { e.Sum = true }), changedEnd(kind, func(e *impl.End) { e.Df, e.Sum, e.Opts = true, true, []impl.Opt{} }))
	}
	for _, c := range optCases() {
		list = append(list, changedEnd(impl.KdGeneve, func(e *impl.End) { e.Opts = c.opts }), changedEnd(impl.KdGeneve, func(e *impl.End) { e.Df, e.Sum, e.Opts = true, true, c.opts }))
	}
	// A critical option of a class that is not known is an option still.
	return append(list, changedEnd(impl.KdGeneve, func(e *impl.End) { e.Opts = []impl.Opt{{Class: 7, Type: 255}} }))
}

func badEnds() []impl.End {
	list := []impl.End{{}, {Id: 1}, {Kind: 1}, {Df: true}, {Opts: []impl.Opt{{}}}}
	for _, kind := range append([]int64{0, 5, 6, 256}, outsiders...) {
		list = append(list, plainEnd(7, kind), changedEnd(kind, func(e *impl.End) { e.Opts = []impl.Opt{{}} }))
	}
	for _, kind := range allKinds {
		for _, id := range append([]int64{0, 100, 101, 257}, outsiders...) {
			list = append(list, plainEnd(id, kind))
		}
		for _, addr := range badAddrs {
			list = append(list, changedEnd(kind, func(e *impl.End) { e.Local = addr }), changedEnd(kind, func(e *impl.End) { e.Remote = addr }))
		}
		for _, net := range badNets {
			list = append(list, changedEnd(kind, func(e *impl.End) { e.Net = net }))
		}
		if kind == impl.KdGeneve {
			continue
		}
		for _, opts := range [][]impl.Opt{{{}}, {{Class: 259, Type: 1, Data: "abcd"}}, make([]impl.Opt, 2)} {
			list = append(list, changedEnd(kind, func(e *impl.End) { e.Opts = opts }))
		}
	}
	for _, net := range []int64{labelEnd, labelEnd + 1, netEnd - 1} {
		list = append(list, changedEnd(impl.KdMpls, func(e *impl.End) { e.Net = net }))
	}
	for _, o := range badOpts() {
		list = append(list, changedEnd(impl.KdGeneve, func(e *impl.End) { e.Opts = []impl.Opt{o} }), changedEnd(impl.KdGeneve, func(e *impl.End) { e.Opts = []impl.Opt{{}, o, {}} }))
	}
	for _, opts := range [][]impl.Opt{make([]impl.Opt, 64), make([]impl.Opt, 1000), {{Data: noughts(124)}, {Data: noughts(124)}}} {
		list = append(list, changedEnd(impl.KdGeneve, func(e *impl.End) { e.Opts = opts }))
	}
	return list
}

func TestEndOk(t *testing.T) {
	for _, e := range goodEnds() {
		if !impl.EndOk(e) {
			t.Errorf("not so: %s", brief(e))
		}
	}
	for _, e := range badEnds() {
		if impl.EndOk(e) {
			t.Errorf("so: %s", brief(e))
		}
	}
}

func sameEnd(a impl.End, b impl.End) bool {
	return a.Id == b.Id && a.Kind == b.Kind && a.Local == b.Local && a.Remote == b.Remote && a.Net == b.Net && a.Df == b.Df && a.Sum == b.Sum && slices.Equal(a.Opts, b.Opts)
}

func sameCmd(a impl.Cmd, b impl.Cmd) bool {
	return a.Kind == b.Kind && sameEnd(a.E, b.E) && a.A == b.A && a.B == b.B && a.C == b.C && a.D == b.D && a.Data == b.Data
}

func endCmd(e impl.End) impl.Cmd {
	return impl.Cmd{Kind: impl.GcEnd, E: e}
}

func macCmd(key int64, act int64) impl.Cmd {
	return impl.Cmd{Kind: impl.GcMac, A: key, B: act}
}

func netCmd(addr int64, bits int64, act int64) impl.Cmd {
	return impl.Cmd{Kind: impl.GcNet, A: addr, B: bits, C: act}
}

func ternCmd(value int64, mask int64, pri int64, act int64) impl.Cmd {
	return impl.Cmd{Kind: impl.GcTern, A: value, B: mask, C: pri, D: act}
}

func mtuCmd(n int64) impl.Cmd {
	return impl.Cmd{Kind: impl.GcMtu, A: n}
}

func tickCmd(n int64) impl.Cmd {
	return impl.Cmd{Kind: impl.GcTick, A: n}
}

func frameCmd(s string) impl.Cmd {
	return impl.Cmd{Kind: impl.GcFrame, Data: s}
}

func wireCmd(s string) impl.Cmd {
	return impl.Cmd{Kind: impl.GcWire, Data: s}
}

// A cmdCase is a command and its text.
type cmdCase struct {
	cmd  impl.Cmd
	text string
}

func endCases() []cmdCase {
	long, whole := strings.Repeat("\xff", 124), noughts(120)
	return []cmdCase{
		{endCmd(plainEnd(1, impl.KdVxlan)), "end 1 vxlan 1.2.3.4 5.6.7.8 9"},
		{endCmd(plainEnd(99, impl.KdGeneve)), "end 99 geneve 1.2.3.4 5.6.7.8 9"},
		{endCmd(plainEnd(10, impl.KdGre)), "end 10 gre 1.2.3.4 5.6.7.8 9"},
		{endCmd(plainEnd(9, impl.KdMpls)), "end 9 mpls 1.2.3.4 5.6.7.8 9"},
		{endCmd(impl.End{Id: 5, Kind: impl.KdVxlan, Remote: addrEnd - 1, Net: netEnd - 1, Df: true}), "end 5 vxlan 0.0.0.0 255.255.255.255 16777215 df"},
		{endCmd(impl.End{Id: 5, Kind: impl.KdGeneve, Local: addrEnd - 1, Net: netEnd - 1, Sum: true}), "end 5 geneve 255.255.255.255 0.0.0.0 16777215 sum"},
		{endCmd(impl.End{Id: 5, Kind: impl.KdGre, Net: netEnd - 1, Df: true, Sum: true}), "end 5 gre 0.0.0.0 0.0.0.0 16777215 df sum"},
		{endCmd(impl.End{Id: 5, Kind: impl.KdMpls, Net: labelEnd - 1, Df: true, Sum: true}), "end 5 mpls 0.0.0.0 0.0.0.0 1048575 df sum"},
		{endCmd(changedEnd(impl.KdGeneve, func(e *impl.End) { e.Opts = []impl.Opt{{}} })), "end 7 geneve 1.2.3.4 5.6.7.8 9 0:0:"},
		{endCmd(changedEnd(impl.KdGeneve, func(e *impl.End) {
			e.Df, e.Sum, e.Opts = true, true, []impl.Opt{{Class: 259, Type: 130, Data: "abcd"}, {Class: 1, Type: 2}, {Class: 65535, Type: 255, Data: "\x00\x0f\xf0\xffwxyz"}}
		})), "end 7 geneve 1.2.3.4 5.6.7.8 9 df sum 259:130:61626364 1:2: 65535:255:000ff0ff7778797a"},
		{endCmd(changedEnd(impl.KdGeneve, func(e *impl.End) { e.Df, e.Opts = true, []impl.Opt{{Type: 3}} })), "end 7 geneve 1.2.3.4 5.6.7.8 9 df 0:3:"},
		{endCmd(changedEnd(impl.KdGeneve, func(e *impl.End) { e.Sum, e.Opts = true, []impl.Opt{{Type: 3}} })), "end 7 geneve 1.2.3.4 5.6.7.8 9 sum 0:3:"},
		{endCmd(changedEnd(impl.KdGeneve, func(e *impl.End) { e.Opts = make([]impl.Opt, 63) })), "end 7 geneve 1.2.3.4 5.6.7.8 9" + strings.Repeat(" 0:0:", 63)},
		{endCmd(changedEnd(impl.KdGeneve, func(e *impl.End) { e.Opts = []impl.Opt{{Data: long}, {Data: whole}} })), "end 7 geneve 1.2.3.4 5.6.7.8 9 0:0:" + strings.Repeat("ff", 124) + " 0:0:" + strings.Repeat("00", 120)},
	}
}

func cmdCases() []cmdCase {
	m := maker{state: 91}
	most := m.text(mostData)
	return append(endCases(), []cmdCase{
		{macCmd(0, 1), "mac 00:00:00:00:00:00 1"}, {macCmd(keyEnd-1, 99), "mac ff:ff:ff:ff:ff:ff 99"}, {macCmd(0x0a0b0c0d0e0f, 10), "mac 0a:0b:0c:0d:0e:0f 10"},
		{netCmd(0, 0, 1), "net 0.0.0.0 0 1"}, {netCmd(addrEnd-1, 32, 99), "net 255.255.255.255 32 99"}, {netCmd(0x0a000000, 8, 2), "net 10.0.0.0 8 2"}, {netCmd(0x0a010203, 8, 2), "net 10.1.2.3 8 2"}, {netCmd(0x0a010203, 0, 2), "net 10.1.2.3 0 2"},
		{ternCmd(0, 0, 0, 1), "tern 00:00:00:00:00:00 00:00:00:00:00:00 0 1"}, {ternCmd(keyEnd-1, keyEnd-1, 1000, 99), "tern ff:ff:ff:ff:ff:ff ff:ff:ff:ff:ff:ff 1000 99"}, {ternCmd(1, 0xff, 5, 3), "tern 00:00:00:00:00:01 00:00:00:00:00:ff 5 3"}, {ternCmd(0, 0xf0f0f0f0f0f0, 20, 30), "tern 00:00:00:00:00:00 f0:f0:f0:f0:f0:f0 20 30"},
		{mtuCmd(68), "mtu 68"}, {mtuCmd(69), "mtu 69"}, {mtuCmd(1500), "mtu 1500"}, {mtuCmd(65534), "mtu 65534"}, {mtuCmd(65535), "mtu 65535"},
		{tickCmd(1), "tick 1"}, {tickCmd(2), "tick 2"}, {tickCmd(999), "tick 999"}, {tickCmd(1000), "tick 1000"},
		{frameCmd(""), "frame -"}, {frameCmd("\x00"), "frame 00"}, {frameCmd("abc\xff\n -"), "frame 616263ff0a202d"}, {frameCmd(most), "frame " + fmt.Sprintf("%x", most)}, {frameCmd(most[:mostData-1]), "frame " + fmt.Sprintf("%x", most[:mostData-1])},
		{wireCmd(""), "wire -"}, {wireCmd("-"), "wire 2d"}, {wireCmd("\x00\xff"), "wire 00ff"}, {wireCmd(most), "wire " + fmt.Sprintf("%x", most)},
	}...)
}

func wantComesBack(t *testing.T, c cmdCase) {
	t.Helper()
	if !impl.CmdOk(c.cmd) {
		t.Errorf("not so: %s", brief(c.cmd))
	}
	if got := impl.CmdText(c.cmd); got != c.text {
		t.Errorf("%s is told as %s, want %s", brief(c.cmd), brief(got), brief(c.text))
	}
	got, ok := impl.ReadCmd(c.text)
	if !ok || !sameCmd(got, c.cmd) {
		t.Errorf("%s is read as %s, %v", brief(c.text), brief(got), ok)
	}
}

// Promise 9: a command comes back from its text.
func TestCommandComesBack(t *testing.T) {
	for _, c := range cmdCases() {
		wantComesBack(t, c)
	}
	for _, e := range goodEnds() {
		wantComesBack(t, cmdCase{endCmd(e), plainText(endCmd(e))})
	}
	m := maker{state: 92}
	for range 3000 {
		c := someCmd(&m)
		wantComesBack(t, cmdCase{c, plainText(c)})
	}
}

// plainText tells a command that is right.
func plainText(c impl.Cmd) string {
	mac := func(n int64) string {
		return fmt.Sprintf("%02x:%02x:%02x:%02x:%02x:%02x", n>>40, n>>32&255, n>>24&255, n>>16&255, n>>8&255, n&255)
	}
	addr := func(n int64) string { return fmt.Sprintf("%d.%d.%d.%d", n>>24, n>>16&255, n>>8&255, n&255) }
	data := fmt.Sprintf("%x", c.Data)
	if data == "" {
		data = "-"
	}
	switch c.Kind {
	case impl.GcMac:
		return fmt.Sprintf("mac %s %d", mac(c.A), c.B)
	case impl.GcNet:
		return fmt.Sprintf("net %s %d %d", addr(c.A), c.B, c.C)
	case impl.GcTern:
		return fmt.Sprintf("tern %s %s %d %d", mac(c.A), mac(c.B), c.C, c.D)
	case impl.GcMtu:
		return fmt.Sprintf("mtu %d", c.A)
	case impl.GcTick:
		return fmt.Sprintf("tick %d", c.A)
	case impl.GcFrame:
		return "frame " + data
	case impl.GcWire:
		return "wire " + data
	}
	e := c.E
	s := fmt.Sprintf("end %d %s %s %s %d", e.Id, []string{"", "vxlan", "geneve", "gre", "mpls"}[e.Kind], addr(e.Local), addr(e.Remote), e.Net)
	if e.Df {
		s += " df"
	}
	if e.Sum {
		s += " sum"
	}
	for _, o := range e.Opts {
		s += fmt.Sprintf(" %d:%d:%x", o.Class, o.Type, o.Data)
	}
	return s
}

// someCmd gives a command that is right.
func someCmd(m *maker) impl.Cmd {
	switch 1 + m.below(8) {
	case impl.GcMac:
		return macCmd(m.below(keyEnd), 1+m.below(99))
	case impl.GcNet:
		return netCmd(m.below(addrEnd), m.below(33), 1+m.below(99))
	case impl.GcTern:
		mask := m.below(keyEnd)
		return ternCmd(m.below(keyEnd)&mask, mask, m.below(1001), 1+m.below(99))
	case impl.GcMtu:
		return mtuCmd(68 + m.below(65468))
	case impl.GcTick:
		return tickCmd(1 + m.below(1000))
	case impl.GcFrame:
		return frameCmd(m.text(int(m.below(30))))
	case impl.GcWire:
		return wireCmd(m.text(int(m.below(30))))
	}
	e := impl.End{Id: 1 + m.below(99), Kind: 1 + m.below(4), Local: m.below(addrEnd), Remote: m.below(addrEnd), Net: m.below(labelEnd), Df: m.below(2) > 0, Sum: m.below(2) > 0}
	for e.Kind == impl.KdGeneve && m.below(3) > 0 && len(e.Opts) < 5 {
		e.Opts = append(e.Opts, impl.Opt{Class: m.below(65536), Type: m.below(256), Data: m.text(4 * int(m.below(4)))})
	}
	return endCmd(e)
}

// withMore gives a command with a thing in each of the fields, one at a time, that its kind does not name.
func withMore(c impl.Cmd) []impl.Cmd {
	named := map[int64]int{impl.GcMac: 2, impl.GcNet: 3, impl.GcTern: 4, impl.GcMtu: 1, impl.GcTick: 1}[c.Kind]
	var list []impl.Cmd
	add := func(is bool, change func(c *impl.Cmd)) {
		if is {
			more := c
			change(&more)
			list = append(list, more)
		}
	}
	for _, n := range append([]int64{1, 68}, outsiders...) {
		add(named < 1, func(c *impl.Cmd) { c.A = n })
		add(named < 2, func(c *impl.Cmd) { c.B = n })
		add(named < 3, func(c *impl.Cmd) { c.C = n })
		add(named < 4, func(c *impl.Cmd) { c.D = n })
		isEnd := c.Kind == impl.GcEnd
		add(!isEnd, func(c *impl.Cmd) { c.E.Id = n })
		add(!isEnd, func(c *impl.Cmd) { c.E.Kind = n })
		add(!isEnd, func(c *impl.Cmd) { c.E.Local = n })
		add(!isEnd, func(c *impl.Cmd) { c.E.Remote = n })
		add(!isEnd, func(c *impl.Cmd) { c.E.Net = n })
	}
	add(c.Kind != impl.GcEnd, func(c *impl.Cmd) { c.E.Df = true })
	add(c.Kind != impl.GcEnd, func(c *impl.Cmd) { c.E.Sum = true })
	add(c.Kind != impl.GcEnd, func(c *impl.Cmd) { c.E.Opts = []impl.Opt{{}} })
	add(c.Kind != impl.GcEnd, func(c *impl.Cmd) { c.E = plainEnd(1, impl.KdVxlan) })
	add(c.Kind < impl.GcFrame, func(c *impl.Cmd) { c.Data = "\x00" })
	return list
}

// oneOfEach gives a right command of each kind, with as many fields as may be that are not zero.
func oneOfEach() []impl.Cmd {
	return []impl.Cmd{
		endCmd(changedEnd(impl.KdGeneve, func(e *impl.End) { e.Df, e.Sum, e.Opts = true, true, []impl.Opt{{Class: 1, Data: "abcd"}} })),
		macCmd(5, 1), netCmd(0x0a010203, 8, 1), ternCmd(5, 7, 5, 1), mtuCmd(100), tickCmd(5), frameCmd("abc"), wireCmd("abc"),
	}
}

func badCmds() []impl.Cmd {
	list := []impl.Cmd{{}, frameCmd(noughts(mostData + 1)), wireCmd(noughts(mostData + 1)), frameCmd(noughts(200000)), ternCmd(0, 0, 1001, 1), mtuCmd(67), mtuCmd(65536), mtuCmd(0), tickCmd(0), tickCmd(1001)}
	for _, e := range badEnds() {
		list = append(list, endCmd(e))
	}
	for _, n := range outsiders {
		list = append(list, mtuCmd(n), tickCmd(n))
	}
	for _, n := range badKeys {
		list = append(list, macCmd(n, 1), ternCmd(n, keyEnd-1, 5, 1), ternCmd(0, n, 5, 1))
	}
	for _, n := range badActs {
		list = append(list, macCmd(5, n), netCmd(5, 32, n), ternCmd(0, 7, 5, n))
	}
	for _, n := range badAddrs {
		list = append(list, netCmd(n, 0, 1), netCmd(n, 32, 1))
	}
	for _, n := range badBits {
		list = append(list, netCmd(0, n, 1), netCmd(5, n, 1))
	}
	for _, n := range badPris {
		list = append(list, ternCmd(5, 7, n, 1))
	}
	for _, c := range oneOfEach() {
		list = append(list, withMore(c)...)
		for _, kind := range append([]int64{0, 9, 10, 257, 263}, outsiders...) {
			other := c
			other.Kind = kind
			list = append(list, other)
		}
	}
	return list
}

func TestWrongCommands(t *testing.T) {
	for _, c := range oneOfEach() {
		if !impl.CmdOk(c) || impl.CmdText(c) == "" {
			t.Errorf("not so: %s", brief(c))
		}
	}
	for _, c := range badCmds() {
		if impl.CmdOk(c) {
			t.Errorf("so: %s", brief(c))
		}
		wantText(t, "what is no command, "+brief(c), impl.CmdText(c), "")
	}
}

func wantNoCmd(t *testing.T, s string) {
	t.Helper()
	if c, ok := impl.ReadCmd(s); ok || !sameCmd(c, impl.Cmd{}) {
		t.Errorf("%s is read as %s, %v", brief(s), brief(c), ok)
	}
}

func TestReadCmdWrong(t *testing.T) {
	for _, s := range []string{
		"", " ", "  ", "-", "end", "mac", "net", "tern", "mtu", "tick", "frame", "wire", "end ", "mac ", "mtu ", "tick ", "frame ", "wire ", "fly", "fly 1", "1", "0", "end 1", "geneve", "vxlan", "df", "sum",
		"end 0 vxlan 1.2.3.4 5.6.7.8 9", "end 100 vxlan 1.2.3.4 5.6.7.8 9", "end 1 tcp 1.2.3.4 5.6.7.8 9", "end 1 1 1.2.3.4 5.6.7.8 9", "end 1  1.2.3.4 5.6.7.8 9", "end vxlan 1 1.2.3.4 5.6.7.8 9",
		"end 1 vxlan 1.2.3.4 5.6.7.8", "end 1 vxlan 1.2.3.4 9", "end 1 vxlan 1.2.3 5.6.7.8 9", "end 1 vxlan 1.2.3.256 5.6.7.8 9", "end 1 vxlan 1.2.3.4 5.6.7.08 9", "end 1 vxlan 16909060 5.6.7.8 9",
		"end 1 vxlan 1.2.3.4 5.6.7.8 16777216", "end 1 geneve 1.2.3.4 5.6.7.8 16777216", "end 1 gre 1.2.3.4 5.6.7.8 16777216", "end 1 mpls 1.2.3.4 5.6.7.8 1048576", "end 1 vxlan 1.2.3.4 5.6.7.8 -1",
		"end 1 vxlan 1.2.3.4 5.6.7.8 9 sum df", "end 1 vxlan 1.2.3.4 5.6.7.8 9 df df", "end 1 vxlan 1.2.3.4 5.6.7.8 9 sum sum", "end 1 vxlan 1.2.3.4 5.6.7.8 9 df sum df", "end 1 vxlan 1.2.3.4 5.6.7.8 df 9", "end 1 df vxlan 1.2.3.4 5.6.7.8 9", "end 1 vxlan 1.2.3.4 5.6.7.8 9 DF", "end 1 vxlan 1.2.3.4 5.6.7.8 9 dfsum",
		"end 1 vxlan 1.2.3.4 5.6.7.8 9 1:1:", "end 1 gre 1.2.3.4 5.6.7.8 9 1:1:61626364", "end 1 mpls 1.2.3.4 5.6.7.8 9 0:0:", "end 1 geneve 1.2.3.4 5.6.7.8 9 1:1: df", "end 1 geneve 1.2.3.4 5.6.7.8 9 df 1:1: sum", "end 1 geneve 1.2.3.4 5.6.7.8 9 sum df 1:1:",
		"mac 1 1", "mac 00:00:00:00:00:01", "mac 00:00:00:00:00:01 0", "mac 00:00:00:00:00:01 100", "mac 00:00:00:00:00:0A 1", "mac 00:00:00:00:00 1", "mac 00-00-00-00-00-01 1", "mac 1 00:00:00:00:00:01",
		"net 10.0.0.0 33 2", "net 10.0.0.0 -1 2", "net 10.0.0.0/8 2", "net 10.0.0.0 8", "net 10.0.0.0 8 0", "net 10.0.0.0 8 100", "net 10.0.0 8 1", "net 010.0.0.0 8 1",
		"tern 00:00:00:00:00:01 ff:ff:ff:ff:ff:ff 1001 3", "tern 00:00:00:00:00:01 ff:ff:ff:ff:ff:ff -1 3", "tern 00:00:00:00:00:01 ff:ff:ff:ff:ff:ff 5", "tern 00:00:00:00:00:01 5 3", "tern 00:00:00:00:00:01 ff:ff:ff:ff:ff:ff 5 0", "tern 00:00:00:00:00:01 ff:ff:ff:ff:ff:ff 5 100", "tern 00:00:00:00:00:01 FF:ff:ff:ff:ff:ff 5 3",
		"mtu 67", "mtu 65536", "mtu 068", "mtu -68", "mtu +68", "mtu 68.0", "mtu 0x44", "mtu x", "mtu -", "mtu 6 8", "tick 0", "tick 1001", "tick -1", "tick 01", "tick", "tick 00000000000000001", "tick 18446744073709551617",
		"frame 0", "frame 000", "frame zz", "frame 0A", "frame aB", "frame --", "frame - -", "frame 00 00", "frame -00", "frame 0-", "wire - -", "wire 0x00", "wire 00:ff", "wire FF", "wire f", "frame-", "frame00",
		"End 1 vxlan 1.2.3.4 5.6.7.8 9", "end 1 Vxlan 1.2.3.4 5.6.7.8 9", "MTU 68", "ticks 1", "mt 68", "mtu\t68", "mtu 68\n", "mtu 68\x00", "\x00mtu 68", "mtu 68\r", "mtu\u00a068", "mtu \uff16\uff18",
	} {
		wantNoCmd(t, s)
	}
	wantNoCmd(t, "frame "+strings.Repeat("00", mostData+1))
	wantNoCmd(t, "wire "+strings.Repeat("00", mostData+1))
	wantNoCmd(t, strings.Repeat(" ", 100000))
	wantNoCmd(t, strings.Repeat("end ", 100000))
}

func TestReadOptionWrong(t *testing.T) {
	ahead := "end 1 geneve 1.2.3.4 5.6.7.8 9 "
	for _, s := range []string{
		"1", "1:", "1:1", ":", "::", ":1:", "1::", "1:1:1:", "1:1::", "1:1:61", "1:1:616263", "1:1:6162636", "1:1:616263646", "1:1:6162636465", "1:1:6162636A", "1:1:6162636g", "1:1:-",
		"01:1:", "1:01:", "+1:1:", "1:+1:", "-1:1:", "1:-1:", "-0:1:", "00:1:", "65536:1:", "1:256:", "1:1: 61626364", "1: 1:", "1;1;", "a:1:", "1:a:", "1:1:61626364:", "0:0:" + strings.Repeat("00", 125), "0:0:" + strings.Repeat("00", 128),
		"0:0:" + strings.Repeat("00", 124) + " 0:0:" + strings.Repeat("00", 124), "0:0:" + strings.Repeat(" 0:0:", 63), "0:0:" + strings.Repeat(" 0:0:", 20000),
	} {
		wantNoCmd(t, ahead+s)
		wantNoCmd(t, ahead+"2:2: "+s)
		wantNoCmd(t, ahead+s+" 2:2:")
	}
}

// A blank more, a number that is written otherwise, and great digits make no command of any text.
func TestTextsNearACommand(t *testing.T) {
	for _, c := range cmdCases() {
		if len(c.text) > 1000 {
			continue
		}
		for _, s := range []string{" " + c.text, c.text + " ", c.text + "\n", "\n" + c.text, c.text + "  ", strings.Replace(c.text, " ", "  ", 1), strings.ReplaceAll(c.text, " ", "  "), strings.ReplaceAll(c.text, " ", "\t"), strings.ReplaceAll(c.text, " ", ""), strings.ToUpper(c.text), c.text + " x", c.text + " -", c.text + " 1", "x " + c.text, c.text + " " + c.text} {
			wantNoCmd(t, s)
		}
		words := strings.Split(c.text, " ")
		for i, word := range words {
			for _, other := range []string{"", "0" + word, "+" + word, "-" + word, word + " ", " " + word, word + "\x00", word + ".", word + ",", "0000000000000000" + word} {
				// Two noughts, or sixteen, ahead of bytes in hex are bytes more.
				if isHexWord := i == 1 && (words[0] == "frame" || words[0] == "wire"); isHexWord && strings.HasPrefix(other, "00") {
					continue
				}
				wantNoCmd(t, strings.Join(slices.Replace(slices.Clone(words), i, i+1, other), " "))
			}
		}
	}
}

// Whatever is read is a command whose text is just that.
func TestWhatIsReadIsACommand(t *testing.T) {
	m := maker{state: 93}
	read := 0
	for _, c := range cmdCases() {
		if len(c.text) > 1000 {
			continue
		}
		for range 400 {
			s := []byte(c.text)
			for range 1 + m.below(2) {
				at := int(m.below(int64(len(s))))
				s[at] = " 0123456789abcdefmx:.-+AF"[m.below(25)]
			}
			if m.below(4) == 0 {
				s = s[:m.below(int64(len(s)))]
			}
			got, ok := impl.ReadCmd(string(s))
			if !ok && !sameCmd(got, impl.Cmd{}) || ok && (!impl.CmdOk(got) || plainText(got) != string(s)) {
				t.Errorf("%q is read as %s, %v", s, brief(got), ok)
			}
			if ok {
				read++
			}
		}
	}
	if read < 1000 {
		t.Errorf("only %d were read", read)
	}
}

func TestAnyFieldsAreAnswered(t *testing.T) {
	m := maker{state: 94}
	numbers := append([]int64{0, 1, 4, 5, 99, 100, 68, labelEnd, netEnd, addrEnd, keyEnd}, outsiders...)
	some := func() int64 { return numbers[m.below(int64(len(numbers)))] }
	for range 5000 {
		c := impl.Cmd{Kind: m.below(10), A: some(), B: some(), C: some(), D: some(), Data: m.text(int(m.below(3)))}
		if m.below(2) == 0 {
			c.E = impl.End{Id: some(), Kind: some(), Local: some(), Remote: some(), Net: some(), Opts: []impl.Opt{{Class: some(), Type: some(), Data: m.text(int(m.below(6)))}}}
		}
		text := impl.CmdText(c)
		if impl.CmdOk(c) != (text != "") {
			t.Errorf("%s is told as %q", brief(c), text)
		}
		if got, ok := impl.ReadCmd(text); ok != (text != "") || ok && !sameCmd(got, c) {
			t.Errorf("%s came back as %s", brief(c), brief(got))
		}
	}
}

// Promise 15, of commands.
func TestCommandsStayAndAreNewMemory(t *testing.T) {
	room := []impl.Opt{{Class: 259, Type: 130, Data: strings.Clone("abcd")}, {Class: 1, Type: 2}, {Class: 5, Data: "room"}, {Class: 6}}
	kept := slices.Clone(room)
	c := endCmd(changedEnd(impl.KdGeneve, func(e *impl.End) { e.Opts = room[:2] }))
	text := impl.CmdText(c)
	impl.CmdOk(c)
	impl.EndOk(c.E)
	wantRules(t, "options and the room behind them", room, kept)
	first, _ := impl.ReadCmd(text)
	wantApart(t, "what is read", []string{first.E.Opts[0].Data}, []string{text})
	spoilOpts(first.E.Opts)
	second, ok := impl.ReadCmd(text)
	if !ok || !sameCmd(second, c) || impl.CmdText(c) != text {
		t.Errorf("read again: %v", second)
	}
	for _, c := range []impl.Cmd{frameCmd(strings.Clone("abcd")), wireCmd(strings.Clone("0123456789"))} {
		text := impl.CmdText(c)
		back, _ := impl.ReadCmd(text)
		wantApart(t, "CmdText", []string{text}, []string{c.Data})
		wantApart(t, "ReadCmd", []string{back.Data}, []string{text, c.Data})
	}
}

func spoilOpts(l []impl.Opt) {
	l = l[:cap(l)]
	for i := range l {
		l[i] = impl.Opt{Class: -9, Data: "spoilt"}
	}
}

package tests

import (
	"encoding/binary"
	"fmt"
	"slices"
	"testing"

	"loop.example/g00675/impl"
)

const (
	netEnd     = 1 << 24
	labelEnd   = 1 << 20
	mostBytes  = 65000
	frameBytes = "\x65\x58"
)

var (
	goodNets = []int64{0, 1, 255, 256, 0x010203, 1 << 23, netEnd - 2, netEnd - 1}
	badNets  = append([]int64{netEnd, netEnd + 1, 1 << 32}, outsiders...)
)

// carriedTexts are what a tunnel of any kind may carry.
func carriedTexts() []string {
	m := maker{state: 11}
	return []string{"", "x", "xy", "\x00", "\xff\xff\xff", m.text(59), m.text(1514), m.text(mostBytes - 1), m.text(mostBytes), noughts(mostBytes)}
}

func TestTunnelCodes(t *testing.T) {
	for want, code := range []int64{impl.TnOk, impl.TnShort, impl.TnForm, impl.TnCritical, impl.TnSum} {
		wantNumber(t, "a code of tunnels", code, int64(want))
	}
}

func TestVxlanComesBack(t *testing.T) {
	for _, net := range goodNets {
		for _, data := range carriedTexts() {
			s := impl.VxlanBytes(net, data)
			wantText(t, "bytes of a Vxlan tunnel", s, "\x08\x00\x00\x00"+impl.BytesOf(net, 3)+"\x00"+data)
			gotNet, gotData, ok := impl.ReadVxlan(s)
			if !ok || gotNet != net || gotData != data {
				t.Errorf("%d, %.20q came back as %d, %.20q, %v", net, data, gotNet, gotData, ok)
			}
			if sharesBytes(s, data) || sharesBytes(s, gotData) {
				t.Errorf("%d, %.20q: an answer is not of its own memory", net, data)
			}
		}
	}
}

func TestWrongVxlans(t *testing.T) {
	for _, net := range badNets {
		wantText(t, fmt.Sprint("net ", net), impl.VxlanBytes(net, "xy"), "")
		wantText(t, fmt.Sprint("net ", net, " without data"), impl.VxlanBytes(net, ""), "")
	}
	for _, size := range []int{mostBytes + 1, mostBytes + 8, 65536, 100000} {
		wantText(t, fmt.Sprint(size, " bytes"), impl.VxlanBytes(7, noughts(size)), "")
	}
}

func wantNoVxlan(t *testing.T, what string, s string) {
	t.Helper()
	if net, data, ok := impl.ReadVxlan(s); ok || net != 0 || data != "" {
		t.Errorf("%s: read as %d, %.40q, %v", what, net, data, ok)
	}
}

func TestReadVxlanWrong(t *testing.T) {
	whole := impl.VxlanBytes(0x010203, "xyz")
	for size := range 8 {
		wantNoVxlan(t, fmt.Sprint(size, " bytes"), whole[:size])
		wantNoVxlan(t, fmt.Sprint(size, " noughts"), noughts(size))
	}
	if net, data, ok := impl.ReadVxlan(whole[:8]); !ok || net != 0x010203 || data != "" {
		t.Errorf("8 bytes: %d, %q, %v", net, data, ok)
	}
	for _, at := range []int{0, 1, 2, 3, 7} {
		for by := 1; by < 256; by++ {
			wantNoVxlan(t, fmt.Sprintf("byte %d more by %d", at, by), with(whole, at, whole[at]+byte(by)))
		}
	}
	head := whole[:8]
	if _, data, ok := impl.ReadVxlan(head + noughts(mostBytes)); !ok || len(data) != mostBytes {
		t.Errorf("%d bytes carried: %d, %v", mostBytes, len(data), ok)
	}
	wantNoVxlan(t, "one byte more than may be carried", head+noughts(mostBytes+1))
}

// An optCase is a list of options and what it is written as.
type optCase struct {
	opts []impl.Opt
	text string
}

func optCases() []optCase {
	m := maker{state: 12}
	long, whole := m.text(124), m.text(120)
	return []optCase{
		{nil, ""},
		{[]impl.Opt{}, ""},
		{[]impl.Opt{{}}, "\x00\x00\x00\x00"},
		{[]impl.Opt{{Class: 65535, Type: 127}}, "\xff\xff\x7f\x00"},
		{[]impl.Opt{{Class: 259, Type: 128}}, "\x01\x03\x80\x00"},
		{[]impl.Opt{{Class: 259, Type: 255, Data: "abcd"}}, "\x01\x03\xff\x01abcd"},
		{[]impl.Opt{{Class: 1, Type: 2, Data: "12345678"}, {Class: 3}}, "\x00\x01\x02\x0212345678\x00\x03\x00\x00"},
		{[]impl.Opt{{Class: 259, Type: 200}, {Class: 258, Type: 127, Data: "\x00\x00\x00\x00"}}, "\x01\x03\xc8\x00\x01\x02\x7f\x01\x00\x00\x00\x00"},
		{[]impl.Opt{{Class: 7, Type: 0, Data: "wxyz"}, {Class: 259, Type: 129, Data: "abcd"}}, "\x00\x07\x00\x01wxyz\x01\x03\x81\x01abcd"},
		{[]impl.Opt{{Class: 256, Type: 1, Data: long}}, "\x01\x00\x01\x1f" + long},
		{[]impl.Opt{{Data: long}, {Type: 3, Data: whole}}, "\x00\x00\x00\x1f" + long + "\x00\x00\x03\x1e" + whole},
		{make([]impl.Opt, 63), noughts(252)},
	}
}

func isMarked(opts []impl.Opt) bool {
	return slices.ContainsFunc(opts, func(o impl.Opt) bool { return o.Type >= 128 })
}

func TestGeneveComesBack(t *testing.T) {
	for _, c := range optCases() {
		for _, net := range goodNets {
			for _, data := range carriedTexts() {
				mark := "\x00"
				if isMarked(c.opts) {
					mark = "\x40"
				}
				s := impl.GeneveBytes(net, c.opts, data)
				wantText(t, "bytes of a Geneve tunnel", s, impl.BytesOf(int64(len(c.text)/4), 1)+mark+frameBytes+impl.BytesOf(net, 3)+"\x00"+c.text+data)
				gotNet, opts, gotData, code := impl.ReadGeneve(s)
				if code != impl.TnOk || gotNet != net || !slices.Equal(opts, c.opts) || gotData != data {
					t.Errorf("%d, %.100v came back as %d, %.100v, %d", net, c.opts, gotNet, opts, code)
				}
				if sharesBytes(s, gotData) || slices.ContainsFunc(opts, func(o impl.Opt) bool { return sharesBytes(s, o.Data) }) {
					t.Errorf("%d, %.100v: an answer is not of its own memory", net, c.opts)
				}
			}
		}
	}
}

func TestManyOptionsComeBack(t *testing.T) {
	m := maker{state: 13}
	for range 3000 {
		var opts []impl.Opt
		size := 0
		for range m.below(12) {
			o := impl.Opt{Class: m.below(65536), Type: m.below(256), Data: m.text(4 * int(m.below(32)))}
			if m.below(2) == 0 {
				o.Class = 259
			}
			opts = append(opts, o)
			size += 4 + len(o.Data)
		}
		s := impl.GeneveBytes(5, opts, "carried")
		if size > 252 {
			wantText(t, fmt.Sprint(size, " bytes of options"), s, "")
			continue
		}
		want := int64(impl.TnOk)
		for _, o := range opts {
			if o.Type >= 128 && o.Class != 259 {
				want = impl.TnCritical
			}
		}
		net, back, data, code := impl.ReadGeneve(s)
		if code != want || net != 5 || !slices.Equal(back, opts) || data != "carried" {
			t.Errorf("%v came back as %d, %v, %q, %d, want %d", opts, net, back, data, code, want)
		}
	}
}

func badOpts() []impl.Opt {
	var list []impl.Opt
	for _, size := range []int{1, 2, 3, 5, 6, 7, 121, 122, 123, 125, 126, 127, 128, 132, 252, 1024} {
		list = append(list, impl.Opt{Data: noughts(size)})
	}
	for _, n := range append([]int64{65536, 65537, 1 << 32}, outsiders...) {
		list = append(list, impl.Opt{Class: n}, impl.Opt{Class: n, Type: 128, Data: "abcd"})
	}
	for _, n := range append([]int64{256, 257, 65536}, outsiders...) {
		list = append(list, impl.Opt{Type: n}, impl.Opt{Class: 259, Type: n, Data: "abcd"})
	}
	return list
}

func TestWrongGeneves(t *testing.T) {
	good := impl.Opt{Class: 1, Type: 2, Data: "abcd"}
	for _, o := range badOpts() {
		for _, opts := range [][]impl.Opt{{o}, {o, good}, {good, o}, {good, o, good}} {
			wantText(t, fmt.Sprintf("options %.60v", opts), impl.GeneveBytes(5, opts, "xy"), "")
		}
	}
	for _, net := range badNets {
		wantText(t, fmt.Sprint("net ", net), impl.GeneveBytes(net, []impl.Opt{good}, "xy"), "")
		wantText(t, fmt.Sprint("net ", net, " without options"), impl.GeneveBytes(net, nil, ""), "")
	}
	for _, size := range []int{mostBytes + 1, 65536, 100000} {
		wantText(t, fmt.Sprint(size, " bytes"), impl.GeneveBytes(5, nil, noughts(size)), "")
		wantText(t, fmt.Sprint(size, " bytes and an option"), impl.GeneveBytes(5, []impl.Opt{good}, noughts(size)), "")
	}
	for _, opts := range [][]impl.Opt{
		make([]impl.Opt, 64), make([]impl.Opt, 65), make([]impl.Opt, 100000),
		{{Data: noughts(124)}, {Data: noughts(124)}}, {{Data: noughts(124)}, {Data: noughts(120)}, {}}, {{Data: noughts(100)}, {Data: noughts(100)}, {Data: noughts(44)}},
	} {
		wantText(t, fmt.Sprint(len(opts), " options of more than 252 bytes"), impl.GeneveBytes(5, opts, ""), "")
	}
}

func wantGeneveCode(t *testing.T, what string, s string, want int64) {
	t.Helper()
	net, opts, data, code := impl.ReadGeneve(s)
	if code != want {
		t.Errorf("%s: code %d, want %d", what, code, want)
	}
	if (code == impl.TnShort || code == impl.TnForm) && (net != 0 || len(opts) != 0 || data != "") {
		t.Errorf("%s: refused with %d, %.60v, %.20q", what, net, opts, data)
	}
}

func TestReadGeneveShort(t *testing.T) {
	for _, c := range optCases() {
		s := impl.GeneveBytes(9, c.opts, "")
		wantGeneveCode(t, "all of the options", s, impl.TnOk)
		for size := range len(s) {
			wantGeneveCode(t, fmt.Sprintf("%d bytes of %d", size, len(s)), s[:size], impl.TnShort)
		}
	}
	// What is short is told ahead of what else is wrong.
	wantGeneveCode(t, "7 noughts", noughts(7), impl.TnShort)
	wantGeneveCode(t, "8 noughts", noughts(8), impl.TnForm)
	wantGeneveCode(t, "a wrong text, one byte short", "\x02\xff\x00\x00"+noughts(11), impl.TnShort)
	wantGeneveCode(t, "a wrong text that is long enough", "\x02\xff\x00\x00"+noughts(12), impl.TnForm)
}

// The first byte, all of it, says how many bytes the options are by 4.
func TestReadGeneveFirstByte(t *testing.T) {
	for first := range 256 {
		s := with("\x00\x00"+frameBytes+"\x00\x00\x05\x00", 0, byte(first))
		want := int64(impl.TnOk)
		if first > 63 {
			want = impl.TnForm
		}
		wantGeneveCode(t, fmt.Sprint("first byte ", first), s+noughts(4*first), want)
		wantGeneveCode(t, fmt.Sprint("first byte ", first, ", carried bytes"), s+noughts(4*first)+"xyz", want)
		if first > 0 {
			wantGeneveCode(t, fmt.Sprint("first byte ", first, ", a byte short"), s+noughts(4*first-1), impl.TnShort)
		}
	}
}

func TestReadGeneveForm(t *testing.T) {
	for _, c := range optCases() {
		s := impl.GeneveBytes(0x010203, c.opts, "xyz")
		for _, at := range []int{1, 2, 3, 7} {
			for by := 1; by < 256; by++ {
				wantGeneveCode(t, fmt.Sprintf("byte %d more by %d", at, by), with(s, at, s[at]+byte(by)), impl.TnForm)
			}
		}
	}
	head := "\x03\x00" + frameBytes + "\x00\x00\x05\x00"
	wantGeneveCode(t, "an option as long as all", head+"\x00\x01\x02\x0212345678", impl.TnOk)
	for _, words := range []byte{3, 4, 31, 32, 63, 64, 128, 255} {
		wantGeneveCode(t, fmt.Sprint("an option of ", words, " words, with bytes behind all"), head+with("\x00\x01\x02\x0012345678", 3, words)+noughts(2000), impl.TnForm)
		wantGeneveCode(t, fmt.Sprint("a second one of ", words, " words"), head+with("\x00\x01\x02\x014567\x00\x00\x00\x00", 11, words)+noughts(2000), impl.TnForm)
	}
	// As long as its byte says, but longer than an option may be.
	for _, words := range []int{32, 33, 62} {
		s := impl.BytesOf(int64(words+1), 1) + head[1:] + "\x00\x01\x02" + impl.BytesOf(int64(words), 1) + noughts(4*words)
		wantGeneveCode(t, fmt.Sprint("one option of ", words, " words"), s, impl.TnForm)
	}
	wantGeneveCode(t, "one option of 31 words", "\x20"+head[1:]+"\x00\x01\x02\x1f"+noughts(124), impl.TnOk)
	wantGeneveCode(t, "as much as may be carried", "\x00"+head[1:]+noughts(mostBytes), impl.TnOk)
	wantGeneveCode(t, "one byte more", "\x00"+head[1:]+noughts(mostBytes+1), impl.TnForm)
	wantGeneveCode(t, "one byte more behind options", head+noughts(12)+noughts(mostBytes+1), impl.TnForm)
}

func TestMarkOfACriticalOption(t *testing.T) {
	for _, c := range optCases() {
		s := impl.GeneveBytes(5, c.opts, "xy")
		for mark := range 256 {
			want := int64(impl.TnForm)
			if mark == 64 && isMarked(c.opts) || mark == 0 && !isMarked(c.opts) {
				want = impl.TnOk
			}
			wantGeneveCode(t, fmt.Sprintf("mark %d of %.60v", mark, c.opts), with(s, 1, byte(mark)), want)
		}
	}
	// A mark that is not right is told ahead of a class that is not known.
	unknown := impl.GeneveBytes(5, []impl.Opt{{Class: 260, Type: 128}}, "xy")
	wantGeneveCode(t, "an unknown class", unknown, impl.TnCritical)
	wantGeneveCode(t, "an unknown class without the mark", with(unknown, 1, 0), impl.TnForm)
}

func TestCriticalOptions(t *testing.T) {
	for _, class := range []int64{0, 1, 3, 258, 259, 260, 515, 65535} {
		for _, kind := range []int64{0, 127, 128, 129, 255} {
			o := impl.Opt{Class: class, Type: kind, Data: "abcd"}
			known := impl.Opt{Class: 259, Type: 128}
			plain := impl.Opt{Class: class, Type: 127}
			for _, opts := range [][]impl.Opt{{o}, {known, o}, {o, known}, {plain, o}, {o, plain}, {plain, known, o, known, plain}} {
				want := int64(impl.TnOk)
				if kind >= 128 && class != 259 {
					want = impl.TnCritical
				}
				net, back, data, code := impl.ReadGeneve(impl.GeneveBytes(netEnd-1, opts, "all of it"))
				if code != want || net != netEnd-1 || !slices.Equal(back, opts) || data != "all of it" {
					t.Errorf("%v: %d, %v, %q, %d, want %d", opts, net, back, data, code, want)
				}
			}
		}
	}
}

func goodGres() []impl.Gre {
	m := maker{state: 14}
	var list []impl.Gre
	for marks := range 8 {
		for _, number := range []int64{0, 1, 255, 65536, 1 << 31, addrEnd - 2, addrEnd - 1} {
			for _, data := range carriedTexts() {
				g := impl.Gre{Sum: marks&1 != 0, HasKey: marks&2 != 0, HasSeq: marks&4 != 0, Data: data}
				if g.HasKey {
					g.Key = number
				}
				if g.HasSeq {
					g.Seq = m.below(addrEnd)
				}
				list = append(list, g)
				if g.HasKey && g.HasSeq {
					g.Key, g.Seq = g.Seq, g.Key
					list = append(list, g)
				}
			}
		}
	}
	return list
}

// greText writes a Gre with that sum, by the standard library's own numbers.
func greText(g impl.Gre, sum uint16) string {
	out := []byte{0, 0, 0x65, 0x58}
	if g.Sum {
		out[0] += 128
		out = binary.BigEndian.AppendUint16(out, sum)
		out = append(out, 0, 0)
	}
	if g.HasKey {
		out[0] += 32
		out = binary.BigEndian.AppendUint32(out, uint32(g.Key))
	}
	if g.HasSeq {
		out[0] += 16
		out = binary.BigEndian.AppendUint32(out, uint32(g.Seq))
	}
	return string(out) + g.Data
}

func rightGreSum(g impl.Gre) uint16 {
	if !g.Sum {
		return 0
	}
	return uint16(impl.SumOf(greText(g, 0)))
}

func TestGreComesBack(t *testing.T) {
	for _, g := range goodGres() {
		s := impl.GreBytes(g)
		if s != greText(g, rightGreSum(g)) {
			t.Errorf("%.60v is written as %.20x", g, s)
		}
		back, code := impl.ReadGre(s)
		if code != impl.TnOk || back != g {
			t.Errorf("%.60v came back as %.60v, %d", g, back, code)
		}
		if sharesBytes(s, g.Data) || sharesBytes(s, back.Data) {
			t.Errorf("%.60v: an answer is not of its own memory", g)
		}
	}
}

func TestGreBytes(t *testing.T) {
	for _, r := range []struct {
		g    impl.Gre
		want string
	}{
		{impl.Gre{}, "00006558"},
		{impl.Gre{Data: "xy"}, "00006558" + "7879"},
		{impl.Gre{HasKey: true}, "20006558" + "00000000"},
		{impl.Gre{HasSeq: true, Seq: 0x01020304}, "10006558" + "01020304"},
		{impl.Gre{HasKey: true, Key: 0x0a0b0c0d, HasSeq: true, Seq: 0x01020304, Data: "z"}, "30006558" + "0a0b0c0d" + "01020304" + "7a"},
		{impl.Gre{Sum: true}, "80006558" + "1aa7" + "0000"},
		{impl.Gre{Sum: true, Data: "\x1a\xa7"}, "80006558" + "0000" + "0000" + "1aa7"},
		{impl.Gre{Sum: true, HasKey: true, Key: 1, HasSeq: true, Seq: 2, Data: "\x01"}, "b0006558" + "e9a3" + "0000" + "00000001" + "00000002" + "01"},
	} {
		wantText(t, fmt.Sprint("bytes of ", r.g), fmt.Sprintf("%x", impl.GreBytes(r.g)), r.want)
	}
}

func TestWrongGres(t *testing.T) {
	for marks := range 8 {
		g := impl.Gre{Sum: marks&1 != 0, HasKey: marks&2 != 0, HasSeq: marks&4 != 0}
		for _, n := range append([]int64{addrEnd, addrEnd + 1, 1 << 40}, outsiders...) {
			key, seq := g, g
			key.Key, seq.Seq = n, n
			wantText(t, fmt.Sprint(key), impl.GreBytes(key), "")
			wantText(t, fmt.Sprint(seq), impl.GreBytes(seq), "")
		}
		for _, n := range []int64{1, 7, addrEnd - 1} {
			key, seq := g, g
			key.Key, seq.Seq = n, n
			if (impl.GreBytes(key) == "") == g.HasKey {
				t.Errorf("%v is written as %x", key, impl.GreBytes(key))
			}
			if (impl.GreBytes(seq) == "") == g.HasSeq {
				t.Errorf("%v is written as %x", seq, impl.GreBytes(seq))
			}
		}
		for _, size := range []int{mostBytes + 1, 65536, 100000} {
			g.Data = noughts(size)
			wantText(t, fmt.Sprint(marks, " with ", size, " bytes"), impl.GreBytes(g), "")
		}
	}
}

func wantGreCode(t *testing.T, what string, s string, want int64) {
	t.Helper()
	g, code := impl.ReadGre(s)
	if code != want {
		t.Errorf("%s: code %d, want %d", what, code, want)
	}
	if code != impl.TnOk && g != (impl.Gre{}) {
		t.Errorf("%s: refused with %.60v", what, g)
	}
}

// The code of every first byte, with too few bytes and with enough of them, each time as the marks in it say.
func TestReadGreFirstByte(t *testing.T) {
	for first := range 256 {
		said := 4
		for _, mark := range []int{128, 32, 16} {
			if first&mark != 0 {
				said += 4
			}
		}
		s := with("\x00\x00"+frameBytes, 0, byte(first)) + noughts(20)
		for size := 1; size < said; size++ {
			wantGreCode(t, fmt.Sprintf("first byte %d with %d bytes", first, size), s[:size], impl.TnShort)
		}
		want := int64(impl.TnOk)
		switch {
		case first&^(128+32+16) != 0:
			want = impl.TnForm
		case first&128 != 0:
			want = impl.TnSum
		}
		for size := said; size <= len(s); size++ {
			wantGreCode(t, fmt.Sprintf("first byte %d with %d bytes", first, size), s[:size], want)
		}
	}
	wantGreCode(t, "nothing", "", impl.TnShort)
	wantGreCode(t, "four noughts", noughts(4), impl.TnForm)
}

func TestReadGreForm(t *testing.T) {
	for marks := range 8 {
		g := impl.Gre{Sum: marks&1 != 0, HasKey: marks&2 != 0, HasSeq: marks&4 != 0, Data: "hello"}
		s := impl.GreBytes(g)
		places := []int{1, 2, 3}
		if g.Sum {
			places = append(places, 6, 7)
		}
		for _, at := range places {
			for by := 1; by < 256; by++ {
				// The sum is another one then as well; the form is told ahead of it.
				wantGreCode(t, fmt.Sprintf("byte %d of %v more by %d", at, g, by), with(s, at, s[at]+byte(by)), impl.TnForm)
			}
		}
		g.Data = noughts(mostBytes + 1)
		wantGreCode(t, fmt.Sprint(marks, " with too many bytes"), greText(g, rightGreSum(g)), impl.TnForm)
		wantGreCode(t, fmt.Sprint(marks, " with too many bytes and another sum"), greText(g, rightGreSum(g)+1), impl.TnForm)
		g.Data = noughts(mostBytes)
		wantGreCode(t, fmt.Sprint(marks, " with as many as may be"), greText(g, rightGreSum(g)), impl.TnOk)
	}
}

func wantIf(cond bool, yes int64, no int64) int64 {
	if cond {
		return yes
	}
	return no
}

func TestAnotherSumOfGre(t *testing.T) {
	for _, g := range []impl.Gre{{Sum: true}, {Sum: true, Data: "\x1a\xa7"}, {Sum: true, HasKey: true, Key: 5, Data: "x"}, {Sum: true, HasKey: true, HasSeq: true, Seq: 9, Data: "frame"}} {
		right := rightGreSum(g)
		for sum := range 65536 {
			wantGreCode(t, fmt.Sprintf("%v with the sum %d", g, sum), greText(g, uint16(sum)), wantIf(uint16(sum) == right, impl.TnOk, impl.TnSum))
		}
	}
	// Where the sum is 0, 65535 is another one, though all added up is the same then.
	nought := impl.Gre{Sum: true, Data: "\x1a\xa7"}
	wantNumber(t, "the sum", int64(rightGreSum(nought)), 0)
	wantGreCode(t, "65535 for 0", greText(nought, 65535), impl.TnSum)
}

func TestChangedByteOfGreWithSum(t *testing.T) {
	g := impl.Gre{Sum: true, HasKey: true, Key: 0x01020304, HasSeq: true, Seq: 0x05060708, Data: "a frame"}
	s := impl.GreBytes(g)
	for at := 8; at < len(s); at++ {
		for by := 1; by < 256; by++ {
			wantGreCode(t, fmt.Sprintf("byte %d more by %d", at, by), with(s, at, s[at]+byte(by)), impl.TnSum)
		}
	}
	g.Sum = false
	s = impl.GreBytes(g)
	for at := 4; at < len(s); at++ {
		wantGreCode(t, fmt.Sprintf("byte %d changed, without a sum", at), with(s, at, s[at]+1), impl.TnOk)
	}
}

func goodLabels() []impl.Label {
	list := []impl.Label{{}, {Label: labelEnd - 1, Tc: 7, Ttl: 255}, {Label: 16, Tc: 1, Ttl: 64}}
	for _, n := range []int64{1, 255, 256, 4095, 4096, 1 << 19, labelEnd - 2, labelEnd - 1} {
		list = append(list, impl.Label{Label: n})
	}
	for n := range int64(8) {
		list = append(list, impl.Label{Tc: n})
	}
	for _, n := range []int64{1, 127, 128, 254, 255} {
		list = append(list, impl.Label{Ttl: n})
	}
	return list
}

func badLabels() []impl.Label {
	var list []impl.Label
	for _, n := range append([]int64{labelEnd, labelEnd + 1, 1 << 32}, outsiders...) {
		list = append(list, impl.Label{Label: n})
	}
	for _, n := range append([]int64{8, 9, 256}, outsiders...) {
		list = append(list, impl.Label{Tc: n})
	}
	for _, n := range append([]int64{256, 257, 512}, outsiders...) {
		list = append(list, impl.Label{Ttl: n})
	}
	return list
}

// stacks are lists of 1 .. 4 labels.
func stacks() [][]impl.Label {
	m := maker{state: 15}
	var list [][]impl.Label
	good := goodLabels()
	for _, label := range good {
		for size := 1; size <= 4; size++ {
			stack := make([]impl.Label, size)
			for i := range stack {
				stack[i] = good[m.below(int64(len(good)))]
			}
			stack[m.below(int64(size))] = label
			list = append(list, stack)
		}
	}
	return list
}

func mplsText(stack []impl.Label, gap string, data string) string {
	var out []byte
	for i, l := range stack {
		n := uint32(l.Label)<<12 | uint32(l.Tc)<<9 | uint32(l.Ttl)
		if i == len(stack)-1 {
			n |= 1 << 8
		}
		out = binary.BigEndian.AppendUint32(out, n)
	}
	return string(out) + gap + data
}

func TestMplsComesBack(t *testing.T) {
	for _, stack := range stacks() {
		for _, data := range carriedTexts() {
			s := impl.MplsBytes(stack, data)
			if s != mplsText(stack, noughts(4), data) {
				t.Errorf("%v is written as %.30x", stack, s)
			}
			back, gotData, code := impl.ReadMpls(s)
			if code != impl.TnOk || !slices.Equal(back, stack) || gotData != data {
				t.Errorf("%v came back as %v, %d", stack, back, code)
			}
			if sharesBytes(s, data) || sharesBytes(s, gotData) {
				t.Errorf("%v: an answer is not of its own memory", stack)
			}
		}
	}
}

func TestMplsBytes(t *testing.T) {
	for _, r := range []struct {
		l    []impl.Label
		want string
	}{
		{[]impl.Label{{}}, "00000100" + "00000000" + "7879"},
		{[]impl.Label{{Label: 1, Tc: 1, Ttl: 1}}, "00001301" + "00000000" + "7879"},
		{[]impl.Label{{Label: labelEnd - 1, Tc: 7, Ttl: 255}, {Label: 0x12345, Tc: 4, Ttl: 64}}, "fffffeff" + "12345940" + "00000000" + "7879"},
		{[]impl.Label{{Ttl: 1}, {Ttl: 2}, {Ttl: 3}, {Ttl: 4}}, "00000001" + "00000002" + "00000003" + "00000104" + "00000000" + "7879"},
	} {
		wantText(t, fmt.Sprint("bytes of ", r.l), fmt.Sprintf("%x", impl.MplsBytes(r.l, "xy")), r.want)
	}
}

func TestWrongMpls(t *testing.T) {
	good := impl.Label{Label: 5, Ttl: 64}
	for _, stack := range [][]impl.Label{nil, {}, make([]impl.Label, 5), make([]impl.Label, 6), make([]impl.Label, 1000)} {
		wantText(t, fmt.Sprint(len(stack), " labels"), impl.MplsBytes(stack, "xy"), "")
	}
	for _, bad := range badLabels() {
		for _, stack := range [][]impl.Label{{bad}, {bad, good}, {good, bad}, {good, good, bad, good}, {good, good, good, bad}} {
			wantText(t, fmt.Sprint(stack), impl.MplsBytes(stack, "xy"), "")
		}
	}
	for _, size := range []int{mostBytes + 1, 65536, 100000} {
		wantText(t, fmt.Sprint(size, " bytes"), impl.MplsBytes([]impl.Label{good}, noughts(size)), "")
	}
}

func wantMplsCode(t *testing.T, what string, s string, want int64) {
	t.Helper()
	l, data, code := impl.ReadMpls(s)
	if code != want {
		t.Errorf("%s: code %d, want %d", what, code, want)
	}
	if code != impl.TnOk && (len(l) != 0 || data != "") {
		t.Errorf("%s: refused with %v, %.20q", what, l, data)
	}
}

func TestReadMplsShort(t *testing.T) {
	for _, stack := range stacks() {
		s := impl.MplsBytes(stack, "")
		wantMplsCode(t, fmt.Sprint("all of ", stack), s, impl.TnOk)
		for size := range len(s) {
			wantMplsCode(t, fmt.Sprintf("%d bytes of %v", size, stack), s[:size], impl.TnShort)
		}
	}
	// What is short is told ahead of what else is wrong.
	s := impl.MplsBytes([]impl.Label{{Ttl: 1}}, "")
	for _, gap := range []string{"", "\x01", "\x00\x01", "\xff\xff\xff"} {
		wantMplsCode(t, fmt.Sprintf("%x behind the last label", gap), s[:4]+gap, impl.TnShort)
	}
}

func TestReadMplsGap(t *testing.T) {
	for _, stack := range stacks() {
		for at := range 4 {
			for _, b := range []byte{1, 128, 255} {
				wantMplsCode(t, fmt.Sprintf("byte %d behind %v", at, stack), mplsText(stack, with(noughts(4), at, b), "xy"), impl.TnForm)
			}
		}
	}
}

func TestReadMplsFiveLabels(t *testing.T) {
	for _, last := range []string{"\x00\x01\x02\x40", "\x00\x01\x03\x40"} {
		five := mplsText(make([]impl.Label, 5), "", "")[:16] + last
		for size := range 24 {
			wantMplsCode(t, fmt.Sprintf("%d bytes, the fifth label %x", size, last), (five + noughts(4))[:size], impl.TnShort)
		}
		wantMplsCode(t, fmt.Sprintf("the fifth label %x", last), five+noughts(4), impl.TnForm)
		wantMplsCode(t, fmt.Sprintf("the fifth label %x, bytes behind", last), five+noughts(4)+"xy", impl.TnForm)
	}
	// Labels behind the first one that is the last are not read.
	one := mplsText([]impl.Label{{Label: 7, Ttl: 9}}, noughts(4), "")
	l, data, code := impl.ReadMpls(one + one)
	if code != impl.TnOk || !slices.Equal(l, []impl.Label{{Label: 7, Ttl: 9}}) || data != one {
		t.Errorf("read as %v, %q, %d", l, data, code)
	}
	wantMplsCode(t, "only noughts", noughts(100), impl.TnForm)
	wantMplsCode(t, "only noughts, too few", noughts(23), impl.TnShort)
}

func TestReadMplsCarried(t *testing.T) {
	for _, stack := range [][]impl.Label{{{Ttl: 3}}, make([]impl.Label, 4)} {
		wantMplsCode(t, "as much as may be carried", mplsText(stack, noughts(4), noughts(mostBytes)), impl.TnOk)
		wantMplsCode(t, "one byte more", mplsText(stack, noughts(4), noughts(mostBytes+1)), impl.TnForm)
	}
}

func wantNotPushed(t *testing.T, l []impl.Label, more impl.Label) {
	t.Helper()
	if out, ok := impl.Pushed(l, more); ok || len(out) != 0 {
		t.Errorf("Pushed(%v, %v): %v, %v", l, more, out, ok)
	}
}

func wantNotPopped(t *testing.T, l []impl.Label) {
	t.Helper()
	if out, label, ok := impl.Popped(l); ok || len(out) != 0 || label != (impl.Label{}) {
		t.Errorf("Popped(%v): %v, %v, %v", l, out, label, ok)
	}
}

func TestPushedAndPopped(t *testing.T) {
	for _, stack := range stacks() {
		for _, more := range goodLabels() {
			if len(stack) == 4 {
				wantNotPushed(t, stack, more)
				continue
			}
			pushed, ok := impl.Pushed(stack, more)
			if !ok || !slices.Equal(pushed, append([]impl.Label{more}, stack...)) {
				t.Errorf("Pushed(%v, %v): %v, %v", stack, more, pushed, ok)
			}
			popped, label, ok := impl.Popped(pushed)
			if !ok || label != more || !slices.Equal(popped, stack) {
				t.Errorf("Popped(%v): %v, %v, %v", pushed, popped, label, ok)
			}
		}
		if len(stack) == 1 {
			wantNotPopped(t, stack)
		}
	}
}

func TestWrongPushedAndPopped(t *testing.T) {
	good := impl.Label{Label: 5, Tc: 2, Ttl: 64}
	for _, size := range []int{0, 4, 5, 6, 100} {
		wantNotPushed(t, make([]impl.Label, size), good)
	}
	for _, size := range []int{0, 1, 5, 6, 100} {
		wantNotPopped(t, make([]impl.Label, size))
	}
	wantNotPushed(t, nil, good)
	wantNotPopped(t, nil)
	for _, bad := range badLabels() {
		wantNotPushed(t, []impl.Label{good}, bad)
		for _, stack := range [][]impl.Label{{bad}, {bad, good}, {good, bad}, {good, good, bad}} {
			wantNotPushed(t, stack, good)
			wantNotPopped(t, stack)
		}
	}
}

// Nothing is written into a list of labels or options, nor behind it, and what is answered is not part of it.
func TestLabelsAndOptionsStay(t *testing.T) {
	room := []impl.Label{{Label: 1}, {Label: 2}, {Label: 3}, {Label: 4}, {Label: 5}, {Label: 6}}
	was := slices.Clone(room)
	pushed, _ := impl.Pushed(room[1:3], impl.Label{Label: 9})
	popped, _, _ := impl.Popped(room[1:4])
	impl.MplsBytes(room[:2], "xy")
	for _, answer := range [][]impl.Label{pushed, popped} {
		for i := range answer[:cap(answer)] {
			answer[:cap(answer)][i] = impl.Label{Label: 77}
		}
	}
	if !slices.Equal(room, was) {
		t.Errorf("labels are %v now", room)
	}
	opts := []impl.Opt{{Class: 1}, {Class: 259, Type: 128, Data: "abcd"}, {Class: 3}, {Class: 4}}
	before := slices.Clone(opts)
	impl.GeneveBytes(5, opts[:2], "xy")
	if !slices.Equal(opts, before) {
		t.Errorf("options are %v now", opts)
	}
}

// Whatever is read is what is written so, and nothing else is read.
func TestWhatIsReadIsATunnel(t *testing.T) {
	m := maker{state: 16}
	starts := []string{
		"\x08\x00\x00\x00", "\x00\x00" + frameBytes, "\x01\x00" + frameBytes, "\x02\x40" + frameBytes + "\x00\x00\x01\x00\x01\x03\x80\x01",
		"\x20\x00" + frameBytes, "\x10\x00" + frameBytes, "\x30\x00" + frameBytes, "\x00\x00\x11\x05\x00\x00\x00\x00", "\x00\x00\x10\x05\x00\x00\x01\x05\x00\x00\x00\x00",
	}
	read := [4]int{}
	for range 40000 {
		s := starts[m.below(int64(len(starts)))] + m.text(int(m.below(24)))
		if m.below(2) == 0 && len(s) > 7 {
			s = with(s, 7, 0)
		}
		if net, data, ok := impl.ReadVxlan(s); ok {
			read[0]++
			wantText(t, "what is read as Vxlan", impl.VxlanBytes(net, data), s)
		}
		if net, opts, data, code := impl.ReadGeneve(s); code == impl.TnOk || code == impl.TnCritical {
			read[1]++
			wantText(t, "what is read as Geneve", impl.GeneveBytes(net, opts, data), s)
		}
		if g, code := impl.ReadGre(s); code == impl.TnOk {
			read[2]++
			wantText(t, "what is read as Gre", impl.GreBytes(g), s)
		}
		if l, data, code := impl.ReadMpls(s); code == impl.TnOk {
			read[3]++
			wantText(t, "what is read as Mpls", impl.MplsBytes(l, data), s)
		}
	}
	for kind, count := range read {
		if count < 500 {
			t.Errorf("only %d of kind %d were read", count, kind)
		}
	}
}

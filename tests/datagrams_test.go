package tests

import (
	"encoding/binary"
	"fmt"
	"strings"
	"testing"

	"loop.example/g00675/impl"
)

const addrEnd = 1 << 32

func noughts(size int) string {
	return strings.Repeat("\x00", size)
}

func goodIps() []impl.Ip {
	m := maker{state: 6}
	var list []impl.Ip
	for opts := 0; opts <= 40; opts += 4 {
		for _, size := range []int{0, 1, 7, 8, 16, 95} {
			list = append(list, impl.Ip{Tos: m.below(256), Id: m.below(65536), Df: m.below(2) == 0, Mf: size%8 == 0 && m.below(2) == 0, Off: m.below(8000),
				Ttl: m.below(256), Proto: m.below(256), Src: m.below(addrEnd), Dst: m.below(addrEnd), Opts: m.text(opts), Data: m.text(size)})
		}
	}
	for _, n := range []int64{0, 1, 2, 127, 128, 254, 255} {
		list = append(list, impl.Ip{Tos: n}, impl.Ip{Ttl: n}, impl.Ip{Proto: n})
	}
	for _, n := range []int64{0, 1, 255, 256, 65534, 65535} {
		list = append(list, impl.Ip{Id: n}, impl.Ip{Id: n, Df: true, Mf: true})
	}
	for _, n := range []int64{0, 1, addrEnd / 2, addrEnd - 2, addrEnd - 1} {
		list = append(list, impl.Ip{Src: n}, impl.Ip{Dst: n}, impl.Ip{Src: n, Dst: n, Ttl: 5, Data: "hi"})
	}
	return append(list, ipsAtTheirEnd()...)
}

// Those that are as long, or end as far behind, as may be.
func ipsAtTheirEnd() []impl.Ip {
	return []impl.Ip{
		{Data: noughts(65514)}, {Data: noughts(65515)}, {Opts: noughts(40), Data: noughts(65475)}, {Opts: noughts(4), Data: noughts(65511)},
		{Mf: true, Data: noughts(65512)}, {Mf: true, Data: noughts(8)}, {Mf: true},
		{Off: 8189}, {Off: 8189, Data: "1"}, {Off: 8189, Data: "123"}, {Off: 8188, Data: "12345678901"}, {Off: 1, Data: noughts(65507)},
		{Off: 8188, Mf: true, Data: "12345678"}, {Off: 8189, Mf: true}, {Off: 8189, Df: true, Opts: noughts(40), Data: "123"},
	}
}

func badIps() []impl.Ip {
	list := []impl.Ip{
		{Data: noughts(65516)}, {Data: noughts(65536)}, {Opts: noughts(40), Data: noughts(65476)}, {Opts: noughts(4), Data: noughts(65512)},
		{Off: 8189, Data: "1234"}, {Off: 8188, Data: "123456789012"}, {Off: 1, Data: noughts(65508)}, {Off: 8190, Data: "1"}, {Off: 8191, Data: "1"},
		{Off: 8189, Mf: true, Data: "12345678"}, {Off: 8190}, {Off: 8191}, {Mf: true, Data: noughts(65515)},
	}
	for _, n := range append([]int64{256, 257, 65536}, outsiders...) {
		list = append(list, impl.Ip{Tos: n}, impl.Ip{Ttl: n}, impl.Ip{Proto: n})
	}
	for _, n := range append([]int64{65536, 65537, addrEnd}, outsiders...) {
		list = append(list, impl.Ip{Id: n})
	}
	for _, n := range append([]int64{8192, 8193, 16384, 1 << 61, 1<<61 + 1, 3 << 61}, outsiders...) {
		list = append(list, impl.Ip{Off: n}, impl.Ip{Off: n, Data: "1"})
	}
	for _, n := range append([]int64{addrEnd, addrEnd + 1, 1 << 48}, outsiders...) {
		list = append(list, impl.Ip{Src: n}, impl.Ip{Dst: n})
	}
	for _, size := range []int{1, 2, 3, 5, 38, 39, 41, 42, 43, 44, 48, 60, 1000, 65516} {
		list = append(list, impl.Ip{Opts: noughts(size)})
	}
	for _, size := range []int{1, 4, 7, 9, 12, 15, 17} {
		list = append(list, impl.Ip{Mf: true, Data: noughts(size)})
	}
	return list
}

func TestDatagramComesBack(t *testing.T) {
	for _, p := range goodIps() {
		if !impl.IpOk(p) {
			t.Fatalf("IpOk is false: %.200v", p)
		}
		s := impl.IpBytes(p)
		wantNumber(t, "bytes of a datagram", int64(len(s)), int64(20+len(p.Opts)+len(p.Data)))
		q, code := impl.ReadIp(s)
		if code != impl.InOk || q != p {
			t.Errorf("%.200v came back as %.200v, %d", p, q, code)
		}
		if sharesBytes(s, q.Opts) || sharesBytes(s, q.Data) || sharesBytes(s, p.Data) {
			t.Errorf("%.200v: an answer is not of its own memory", p)
		}
	}
}

func TestIpBytes(t *testing.T) {
	for _, r := range []struct {
		p    impl.Ip
		want string
	}{
		{impl.Ip{}, "45000014" + "00000000" + "0000" + "baeb" + "00000000" + "00000000"},
		{impl.Ip{Df: true, Ttl: 64, Proto: 17, Src: 0xc0a80001, Dst: 0xc0a800c7, Data: "hi"}, "45000016" + "00004000" + "4011" + "b8be" + "c0a80001" + "c0a800c7" + "6869"},
		{impl.Ip{Tos: 1, Id: 0x0203, Off: 0x0405, Ttl: 6, Proto: 7, Src: 0x08090a0b, Dst: 0x0c0d0e0f}, "45010014" + "02030405" + "0607" + "82ab" + "08090a0b" + "0c0d0e0f"},
		{impl.Ip{Mf: true, Off: 1, Opts: "\x01\x01\x01\x00", Data: "12345678"}, "46000020" + "00002001" + "0000" + "97dd" + "00000000" + "00000000" + "01010100" + "3132333435363738"},
		{impl.Ip{Df: true, Mf: true, Off: 8188, Opts: noughts(40)}, "4f00003c" + "00007ffc" + "0000" + "30c7" + "00000000" + "00000000" + strings.Repeat("00", 40)},
	} {
		wantText(t, "bytes of a datagram", fmt.Sprintf("%x", impl.IpBytes(r.p)), r.want)
	}
}

func TestWrongIps(t *testing.T) {
	for _, p := range badIps() {
		what := fmt.Sprintf("%.100v, %d and %d bytes", p, len(p.Opts), len(p.Data))
		if impl.IpOk(p) {
			t.Errorf("IpOk of %s", what)
		}
		wantText(t, what, impl.IpBytes(p), "")
	}
}

// summed gives s a right sum over its first size bytes.
func summed(s string, size int) string {
	blank := s[:10] + "\x00\x00" + s[12:]
	return s[:10] + impl.BytesOf(impl.SumOf(blank[:size]), 2) + s[12:]
}

func with(s string, at int, b byte) string {
	return s[:at] + string([]byte{b}) + s[at+1:]
}

func wantIpCode(t *testing.T, what string, s string, want int64) {
	t.Helper()
	p, code := impl.ReadIp(s)
	if code != want {
		t.Errorf("%s: code %d, want %d", what, code, want)
	}
	if code != impl.InOk && p != (impl.Ip{}) {
		t.Errorf("%s: refused with %.200v", what, p)
	}
}

func TestChangedByteIsNoDatagram(t *testing.T) {
	for _, p := range goodIps() {
		if len(p.Data) > 100 {
			continue
		}
		s := impl.IpBytes(p)
		for at := 1; at < 20+len(p.Opts); at++ {
			for by := 1; by < 256; by++ {
				changed := with(s, at, s[at]+byte(by))
				if q, code := impl.ReadIp(changed); code == impl.InOk || q != (impl.Ip{}) {
					t.Fatalf("with byte %d changed %v is read as %v, %d", at, p, q, code)
				}
			}
		}
	}
}

func TestChangedDataIsRead(t *testing.T) {
	p := impl.Ip{Ttl: 9, Src: 1, Dst: 2, Opts: "\x01\x01\x01\x01", Data: "hello"}
	s := impl.IpBytes(p)
	wantIpCode(t, "another last byte", s[:len(s)-1]+"O", impl.InOk)
	if q, _ := impl.ReadIp(s[:len(s)-1] + "O"); q.Data != "hellO" {
		t.Errorf("Data is %q", q.Data)
	}
}

func TestReadIpShort(t *testing.T) {
	whole := impl.IpBytes(impl.Ip{Ttl: 1, Src: 5})
	for size := range 20 {
		wantIpCode(t, fmt.Sprint(size, " bytes"), whole[:size], impl.InShort)
		wantIpCode(t, fmt.Sprint(size, " noughts"), noughts(size), impl.InShort)
	}
	wantIpCode(t, "20 bytes", whole, impl.InOk)
	wantIpCode(t, "20 noughts", noughts(20), impl.InVersion)
}

func TestReadIpFirstByte(t *testing.T) {
	for first := range 256 {
		for _, size := range []int{20, 24, 59, 60, 61, 100} {
			head := 4 * (first - 64)
			s := with(noughts(size), 0, byte(first))
			s = s[:2] + impl.BytesOf(int64(size), 2) + s[4:]
			want := int64(impl.InOk)
			switch {
			case first < 69 || first > 79:
				want = impl.InVersion
			case size < head:
				want = impl.InLength
			}
			if want == impl.InOk {
				s = summed(s, head)
			}
			wantIpCode(t, fmt.Sprintf("first byte %d of %d", first, size), s, want)
		}
	}
}

func TestReadIpLength(t *testing.T) {
	for _, p := range []impl.Ip{{}, {Data: "12345678"}, {Opts: "1234", Data: "x"}, {Mf: true, Data: noughts(256)}, {Data: noughts(65514)}} {
		s := impl.IpBytes(p)
		head := 20 + len(p.Opts)
		wantIpCode(t, "as told", s, impl.InOk)
		wantIpCode(t, "one byte more", s+"\x00", impl.InLength)
		if len(s) > 20 {
			wantIpCode(t, "one byte less", s[:len(s)-1], impl.InLength)
		}
		for _, told := range []int{len(s) - 1, len(s) + 1, 0, 19, head - 1} {
			if told != len(s) {
				wantIpCode(t, fmt.Sprintf("%d told of %d", told, len(s)), summed(s[:2]+impl.BytesOf(int64(told), 2)+s[4:], head), impl.InLength)
			}
		}
	}
	longest := impl.IpBytes(impl.Ip{Data: noughts(65515)})
	wantIpCode(t, "65535 bytes", longest, impl.InOk)
	wantIpCode(t, "65536 bytes", longest+"\x00", impl.InLength)
	// 2 bytes of 65536 + 20 would be those of 20.
	short := impl.IpBytes(impl.Ip{})
	wantIpCode(t, "65536 bytes more", short+noughts(65536), impl.InLength)
}

// ipWhoseSumIsNought has a right sum of 0.
func ipWhoseSumIsNought(t *testing.T) impl.Ip {
	for id := range int64(65536) {
		p := impl.Ip{Id: id, Ttl: 64, Proto: 17, Src: 0x0a000001, Dst: 0x0a000002, Data: "hi"}
		if impl.IpBytes(p)[10:12] == "\x00\x00" {
			return p
		}
	}
	t.Fatal("none has a sum of 0")
	return impl.Ip{}
}

func TestSumFieldOfNoughtOr65535(t *testing.T) {
	p := ipWhoseSumIsNought(t)
	s := impl.IpBytes(p)
	other := s[:10] + "\xff\xff" + s[12:]
	for _, text := range []string{s, other} {
		q, code := impl.ReadIp(text)
		if code != impl.InOk || q != p {
			t.Errorf("sum field %x: %v, %d", text[10:12], q, code)
		}
		h, ok := impl.Hopped(text)
		later := p
		later.Ttl--
		if !ok || h != impl.IpBytes(later) {
			t.Errorf("sum field %x: a hop gives %x, %v", text[10:12], h, ok)
		}
	}
	p.Id++
	s = impl.IpBytes(p)
	for _, field := range []string{"\x00\x00", "\xff\xff"} {
		wantIpCode(t, fmt.Sprintf("sum field %x", field), s[:10]+field+s[12:], impl.InSum)
	}
}

func TestReadIpForm(t *testing.T) {
	for _, r := range []struct {
		flags uint16
		size  int
		want  int64
	}{
		{0, 5, impl.InOk}, {0x8000, 5, impl.InForm}, {0xc000, 5, impl.InForm}, {0x8000, 0, impl.InForm}, {0xa000, 8, impl.InForm},
		{0x2000, 8, impl.InOk}, {0x2000, 7, impl.InForm}, {0x2000, 9, impl.InForm}, {0x2000, 0, impl.InOk}, {0x6000, 4, impl.InForm},
		{8189, 3, impl.InOk}, {8189, 4, impl.InForm}, {0x4000 + 8189, 3, impl.InOk}, {0x4000 + 8189, 4, impl.InForm}, {8191, 1, impl.InForm},
		{0x2000 + 8188, 8, impl.InOk}, {0x2000 + 8189, 8, impl.InForm}, {1, 65507, impl.InOk}, {1, 65508, impl.InForm},
	} {
		s := impl.IpBytes(impl.Ip{Ttl: 3, Proto: 4, Src: 5, Dst: 6, Data: noughts(r.size)})
		s = s[:6] + string(binary.BigEndian.AppendUint16(nil, r.flags)) + s[8:]
		wantIpCode(t, fmt.Sprintf("flags %x with %d bytes", r.flags, r.size), summed(s, 20), r.want)
	}
}

// withFaults gives a text with each fault whose bit is set, InShort 1, InVersion 2, InLength 4, InSum 8 and InForm 16.
func withFaults(s string, faults int, first byte, form byte, length func(string) string) string {
	head := 4 * int(s[0]-64)
	if faults&16 != 0 {
		s = with(s, 6, form)
	}
	if faults&4 != 0 {
		s = length(s)
	}
	if faults&2 != 0 {
		s = with(s, 0, first)
	}
	s = summed(s, head)
	if faults&8 != 0 {
		s = with(s, 5, s[5]+1)
	}
	if faults&1 != 0 {
		s = s[:19]
	}
	return s
}

func TestFirstFaultIsTold(t *testing.T) {
	lengths := []func(string) string{
		func(s string) string { return s + "\x00" },
		func(s string) string { return s[:len(s)-1] },
		func(s string) string { return with(s, 3, s[3]+1) },
		func(s string) string { return with(s, 3, s[3]-1) },
	}
	for _, p := range []impl.Ip{{Ttl: 3, Data: "12345"}, {Ttl: 3, Opts: "1234", Data: "12345"}} {
		for faults := range 32 {
			want := int64(impl.InOk)
			for code := int64(5); code >= 1; code-- {
				if faults>>(code-1)&1 == 1 {
					want = code
				}
			}
			for i, length := range lengths {
				for _, first := range []byte{0, 68, 80, 255} {
					for _, form := range []byte{0x80, 0xa0, 0x20} {
						s := withFaults(impl.IpBytes(p), faults, first, form, length)
						wantIpCode(t, fmt.Sprintf("faults %05b, way %d, %d, %x", faults, i, first, form), s, want)
					}
				}
			}
		}
	}
}

func TestHopTakesOneOfTtl(t *testing.T) {
	for _, p := range goodIps() {
		for _, ttl := range []int64{0, 1, 2, 3, 64, 128, 254, 255} {
			p.Ttl = ttl
			s := impl.IpBytes(p)
			h, ok := impl.Hopped(s)
			if ttl <= 1 {
				if ok || h != "" {
					t.Errorf("Ttl %d hops on: %.40x, %v", ttl, h, ok)
				}
				continue
			}
			later := p
			later.Ttl--
			if !ok || h != impl.IpBytes(later) {
				t.Errorf("%.200v: a hop gives %.40x, %v", p, h, ok)
			}
			q, code := impl.ReadIp(h)
			if code != impl.InOk || q != later {
				t.Errorf("behind a hop %.200v, %d", q, code)
			}
		}
	}
}

func TestHopsToTheLast(t *testing.T) {
	s := impl.IpBytes(impl.Ip{Id: 7, Ttl: 255, Proto: 255, Src: addrEnd - 1, Dst: addrEnd - 1, Opts: "\x01\x01\x01\x01", Data: "far"})
	hops := 0
	for {
		h, ok := impl.Hopped(s)
		if !ok {
			break
		}
		s = h
		hops++
	}
	wantNumber(t, "hops of a Ttl of 255", int64(hops), 254)
}

func TestHopOfNoDatagram(t *testing.T) {
	s := impl.IpBytes(impl.Ip{Ttl: 9, Src: 1, Dst: 2, Data: "12345"})
	for faults := 1; faults < 32; faults++ {
		text := withFaults(s, faults, 68, 0x80, func(s string) string { return s + "x" })
		if h, ok := impl.Hopped(text); ok || h != "" {
			t.Errorf("faults %05b hop on: %x", faults, h)
		}
	}
	for _, text := range []string{"", "\x45", noughts(20)} {
		if h, ok := impl.Hopped(text); ok || h != "" {
			t.Errorf("%q hops on: %x", text, h)
		}
	}
}

func TestAddrComesBack(t *testing.T) {
	m := maker{state: 7}
	list := []int64{0, 1, 9, 10, 99, 100, 255, 256, 0x01020304, 0xc0a800c7, addrEnd / 2, addrEnd - 2, addrEnd - 1}
	for range 300 {
		list = append(list, m.below(addrEnd))
	}
	for _, n := range list {
		text := impl.AddrText(n)
		wantText(t, "AddrText", text, fmt.Sprintf("%d.%d.%d.%d", n>>24, n>>16&255, n>>8&255, n&255))
		back, ok := impl.ReadAddr(text)
		if !ok || back != n {
			t.Errorf("%d came back as %d, %v", n, back, ok)
		}
	}
	for _, n := range append([]int64{addrEnd, addrEnd + 1, 1 << 40}, outsiders...) {
		wantText(t, fmt.Sprintf("AddrText(%d)", n), impl.AddrText(n), "")
	}
}

func TestReadAddrNumberByNumber(t *testing.T) {
	plain := map[string]bool{}
	for n := range 256 {
		plain[fmt.Sprint(n)] = true
	}
	parts := []string{"1", "20", "255", "0"}
	for at := range 4 {
		for n := range 1300 {
			for _, form := range []string{"%d", "0%d", "%03d", "00%d", "+%d", "-%d", "%d ", " %d", "%d.", "%x", "%d_0"} {
				part := fmt.Sprintf(form, n)
				all := append([]string{}, parts...)
				all[at] = part
				text := strings.Join(all, ".")
				got, ok := impl.ReadAddr(text)
				if ok != plain[part] || !ok && got != 0 || ok && impl.AddrText(got) != text {
					t.Errorf("ReadAddr(%q): %d, %v", text, got, ok)
				}
			}
		}
	}
}

func TestReadAddrWrong(t *testing.T) {
	for _, s := range []string{
		"", ".", "...", "....", "1", "1.2", "1.2.3", "1.2.3.", ".1.2.3", "1.2.3.4.", ".1.2.3.4", "1.2.3.4.5", "1..2.3", "1.2.3..4",
		"256.0.0.0", "0.256.0.0", "0.0.256.0", "0.0.0.256", "255.255.255.256", "999.1.1.1", "1000.0.0.0", "00.0.0.0", "0.0.0.00", "01.2.3.4", "1.2.3.04", "1.2.03.4",
		"-1.0.0.0", "-0.0.0.0", "0.0.0.-0", "+1.2.3.4", "1.2.3.4 ", " 1.2.3.4", "1. 2.3.4", "1.2.3.4\n", "1,2,3,4", "1.2.3.0x4", "a.b.c.d", "1.2.3.1e1", "1_0.2.3.4",
		"18446744073709551617.0.0.0", "4294967297.0.0.0", "0.0.0.00000000000000000000001", "\u0661.2.3.4", "1.2.3\x00.4", strings.Repeat("1.", 100000),
	} {
		if n, ok := impl.ReadAddr(s); ok || n != 0 {
			t.Errorf("ReadAddr(%.60q): %d, %v", s, n, ok)
		}
	}
}

func TestWhatIsReadIsADatagram(t *testing.T) {
	m := maker{state: 9}
	read := 0
	for range 20000 {
		s := m.text(int(m.below(80)))
		if len(s) >= 20 {
			// Most texts have what the first checks ask, so that the later ones are met too.
			s = with(with(with(s, 0, byte(68+m.below(8))), 2, 0), 3, byte(len(s)))
			if head := 4 * int(s[0]-64); head <= len(s) {
				s = summed(s, head)
			}
		}
		p, code := impl.ReadIp(s)
		if code != impl.InOk {
			if p != (impl.Ip{}) {
				t.Errorf("%x: refused with %v", s, p)
			}
			continue
		}
		read++
		if !impl.IpOk(p) || impl.IpBytes(p) != s {
			t.Errorf("%x is read as %v", s, p)
		}
	}
	if read < 1000 {
		t.Errorf("only %d were read", read)
	}
}

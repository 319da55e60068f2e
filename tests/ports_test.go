package tests

import (
	"fmt"
	"testing"

	"loop.example/g00675/impl"
)

func goodUdps() []impl.Udp {
	m := maker{state: 8}
	var list []impl.Udp
	for _, port := range []int64{0, 1, 255, 256, 4789, 65534, 65535} {
		for _, size := range []int{0, 1, 2, 3, 50, 51} {
			list = append(list, impl.Udp{From: port, To: m.below(65536), Data: m.text(size)}, impl.Udp{From: m.below(65536), To: port, Data: m.text(size)})
		}
	}
	return append(list, impl.Udp{}, impl.Udp{From: 65535, To: 65535}, impl.Udp{Data: m.text(65506)}, impl.Udp{Data: m.text(65507)}, impl.Udp{Data: noughts(65507)})
}

var addrPairs = [][2]int64{{0, 0}, {0, 1}, {addrEnd - 1, addrEnd - 1}, {0xc0a80001, 0x0a0b0c0d}, {addrEnd - 1, 0}}

func TestPortsComeBack(t *testing.T) {
	for _, u := range goodUdps() {
		for _, pair := range addrPairs {
			for _, u.Sum = range []bool{false, true} {
				s := impl.UdpBytes(pair[0], pair[1], u)
				wantNumber(t, "bytes that a port sends", int64(len(s)), int64(8+len(u.Data)))
				v, ok := impl.ReadUdp(pair[0], pair[1], s)
				if !ok || v != u {
					t.Errorf("%.100v came back as %.100v, %v", u, v, ok)
				}
				if (s[6:8] == "\x00\x00") == u.Sum {
					t.Errorf("%.100v has the sum %x", u, s[6:8])
				}
				if sharesBytes(s, v.Data) || sharesBytes(s, u.Data) {
					t.Errorf("%.100v: an answer is not of its own memory", u)
				}
			}
		}
	}
}

func TestUdpBytes(t *testing.T) {
	for _, r := range []struct {
		src, dst int64
		u        impl.Udp
		want     string
	}{
		{0, 0, impl.Udp{}, "0000" + "0000" + "0008" + "0000"},
		{0, 0, impl.Udp{Sum: true}, "0000" + "0000" + "0008" + "ffde"},
		{5, 6, impl.Udp{From: 1, To: 2, Data: "ab"}, "0001" + "0002" + "000a" + "0000" + "6162"},
		{5, 6, impl.Udp{From: 1, To: 2, Sum: true, Data: "ab"}, "0001" + "0002" + "000a" + "9e6a" + "6162"},
		{0xc0a80001, 0xc0a800c7, impl.Udp{From: 0x0102, To: 0xfffe, Sum: true, Data: "abc"}, "0102" + "fffe" + "000b" + "b85b" + "616263"},
		{0x01000000, 0x00000100, impl.Udp{Sum: true, Data: "\x80"}, "0000" + "0000" + "0009" + "7ddc" + "80"},
	} {
		wantText(t, "bytes that a port sends", fmt.Sprintf("%x", impl.UdpBytes(r.src, r.dst, r.u)), r.want)
	}
}

func wantNoUdp(t *testing.T, what string, src int64, dst int64, s string) {
	t.Helper()
	if u, ok := impl.ReadUdp(src, dst, s); ok || u != (impl.Udp{}) {
		t.Errorf("%s: read as %.200v, %v", what, u, ok)
	}
}

func TestChangedByteIsNotRead(t *testing.T) {
	for _, u := range goodUdps() {
		if len(u.Data) > 100 {
			continue
		}
		u.Sum = true
		for _, pair := range addrPairs {
			s := impl.UdpBytes(pair[0], pair[1], u)
			for at := range len(s) {
				for by := 1; by < 256; by++ {
					changed := with(s, at, s[at]+byte(by))
					if changed[6:8] == "\x00\x00" {
						wantWithoutSum(t, pair, changed, u)
						continue
					}
					if v, ok := impl.ReadUdp(pair[0], pair[1], changed); ok || v != (impl.Udp{}) {
						t.Fatalf("with byte %d changed %v is read as %v, %v", at, u, v, ok)
					}
				}
			}
		}
	}
}

func wantWithoutSum(t *testing.T, pair [2]int64, s string, u impl.Udp) {
	t.Helper()
	u.Sum = false
	v, ok := impl.ReadUdp(pair[0], pair[1], s)
	if !ok || v != u {
		t.Errorf("without a sum %v is read as %v, %v", u, v, ok)
	}
}

func TestWithoutSumOtherBytesAreRead(t *testing.T) {
	s := impl.UdpBytes(1, 2, impl.Udp{From: 3, To: 4, Data: "hello"})
	changed := with(with(s, 1, 9), 12, 'O')
	u, ok := impl.ReadUdp(7, 8, changed)
	if !ok || u != (impl.Udp{From: 9, To: 4, Data: "hellO"}) {
		t.Errorf("read as %v, %v", u, ok)
	}
}

func TestSumThatComesToNought(t *testing.T) {
	found := 0
	for _, pair := range addrPairs {
		for _, data := range []string{"", "x", "xy", "xyz"} {
			for to := range int64(65536) {
				u := impl.Udp{From: 40000, To: to, Sum: true, Data: data}
				s := impl.UdpBytes(pair[0], pair[1], u)
				size := impl.BytesOf(int64(len(s)), 2)
				all := impl.BytesOf(pair[0], 4) + impl.BytesOf(pair[1], 4) + "\x00\x11" + size + s[:6] + "\x00\x00" + data
				if impl.SumOf(all) != 0 {
					continue
				}
				found++
				wantText(t, "a sum that comes to 0", s[6:8], "\xff\xff")
				if v, ok := impl.ReadUdp(pair[0], pair[1], s); !ok || v != u {
					t.Errorf("%v came back as %v, %v", u, v, ok)
				}
				// The same bytes with 0 there are without a sum.
				wantWithoutSum(t, pair, s[:6]+"\x00\x00"+s[8:], u)
				u.Sum = false
				wantText(t, "the same, without Sum", impl.UdpBytes(pair[0], pair[1], u)[6:8], "\x00\x00")
			}
		}
	}
	if found < len(addrPairs)*4 {
		t.Errorf("only %d sums come to 0", found)
	}
}

func TestSumIsOverAddresses(t *testing.T) {
	u := impl.Udp{From: 1, To: 2, Sum: true, Data: "ab"}
	s := impl.UdpBytes(0x01020304, 0x05060708, u)
	for _, pair := range [][2]int64{{0x01020305, 0x05060708}, {0x01020304, 0x05060709}, {0x02020304, 0x05060708}, {0x01020304, 0x04060708}, {0, 0}} {
		wantNoUdp(t, fmt.Sprint("from and to ", pair), pair[0], pair[1], s)
	}
	if v, ok := impl.ReadUdp(0x05060708, 0x01020304, s); !ok || v != u {
		t.Errorf("the other way: %v, %v", v, ok)
	}
}

func TestWrongUdps(t *testing.T) {
	for _, sum := range []bool{false, true} {
		for _, port := range append([]int64{65536, 65537, addrEnd}, outsiders...) {
			wantText(t, fmt.Sprint("from ", port), impl.UdpBytes(1, 2, impl.Udp{From: port, Sum: sum}), "")
			wantText(t, fmt.Sprint("to ", port), impl.UdpBytes(1, 2, impl.Udp{To: port, Sum: sum}), "")
		}
		for _, size := range []int{65508, 65509, 65528, 65536, 70000} {
			wantText(t, fmt.Sprint(size, " bytes"), impl.UdpBytes(1, 2, impl.Udp{Sum: sum, Data: noughts(size)}), "")
		}
		for _, addr := range append([]int64{addrEnd, addrEnd + 1}, outsiders...) {
			u := impl.Udp{From: 1, To: 2, Sum: sum, Data: "ab"}
			wantText(t, fmt.Sprint("src ", addr), impl.UdpBytes(addr, 2, u), "")
			wantText(t, fmt.Sprint("dst ", addr), impl.UdpBytes(2, addr, u), "")
			s := impl.UdpBytes(0, 0, u)
			wantNoUdp(t, fmt.Sprint("src ", addr), addr, 0, s)
			wantNoUdp(t, fmt.Sprint("dst ", addr), 0, addr, s)
			wantNoUdp(t, fmt.Sprint("nothing from ", addr), addr, 0, "")
		}
	}
}

func TestReadUdpLength(t *testing.T) {
	for _, data := range []string{"", "a", "ab", noughts(250), noughts(65507)} {
		for _, sum := range []bool{false, true} {
			s := impl.UdpBytes(1, 2, impl.Udp{From: 3, To: 4, Sum: sum, Data: data})
			wantNoUdp(t, "a byte more", 1, 2, s+"\x00")
			wantNoUdp(t, "a byte less", 1, 2, s[:len(s)-1])
			for _, told := range []int64{0, 7, int64(len(s)) - 1, int64(len(s)) + 1, 65535} {
				wantNoUdp(t, fmt.Sprintf("%d told of %d", told, len(s)), 1, 2, s[:4]+impl.BytesOf(told, 2)+s[6:])
			}
		}
	}
	whole := impl.UdpBytes(1, 2, impl.Udp{From: 3, To: 4, Data: "ab"})
	for size := range len(whole) {
		wantNoUdp(t, fmt.Sprint(size, " bytes"), 1, 2, whole[:size])
		wantNoUdp(t, fmt.Sprint(size, " noughts"), 1, 2, noughts(size))
	}
	// Lengths that 2 bytes can tell, but of more Data than may be; and one that they can tell only in part.
	for _, size := range []int64{65516, 65517, 65535} {
		wantNoUdp(t, fmt.Sprint(size, " bytes"), 1, 2, "\x00\x01\x00\x02"+impl.BytesOf(size, 2)+noughts(int(size)-6))
	}
	wantNoUdp(t, "65536 bytes more", 1, 2, whole+noughts(65536))
}

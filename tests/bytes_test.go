package tests

import (
	"fmt"
	"strings"
	"testing"

	"loop.example/g00675/impl"
)

func numbersOf(k int64) []int64 {
	limit := int64(1) << (8 * k)
	list := []int64{0, 1, 127, 128, 255, limit / 2, limit/2 - 1, limit - 2, limit - 1, 0x01020304050607 & (limit - 1)}
	m := maker{state: uint64(k)}
	for range 50 {
		list = append(list, m.below(limit))
	}
	return list
}

func TestNumberComesBack(t *testing.T) {
	for k := int64(1); k <= 7; k++ {
		for _, n := range numbersOf(k) {
			s := impl.BytesOf(n, k)
			if int64(len(s)) != k {
				t.Fatalf("BytesOf(%d, %d) has %d bytes", n, k, len(s))
			}
			for ahead := range int64(4) {
				text := strings.Repeat("\xa5", int(ahead)) + s
				for _, behind := range []string{"", "\xa5", "\x00\xff"} {
					back, ok := impl.NumAt(text+behind, ahead, k)
					if !ok || back != n {
						t.Errorf("%d in %d bytes behind %d: came back as %d, %v", n, k, ahead, back, ok)
					}
				}
			}
		}
	}
}

func TestBytesOfHighestFirst(t *testing.T) {
	for _, r := range []struct {
		n, k int64
		want string
	}{
		{0, 1, "\x00"},
		{255, 1, "\xff"},
		{256, 2, "\x01\x00"},
		{258, 3, "\x00\x01\x02"},
		{0x80000000, 4, "\x80\x00\x00\x00"},
		{0x0102030405, 5, "\x01\x02\x03\x04\x05"},
		{0xfedcba987654, 6, "\xfe\xdc\xba\x98\x76\x54"},
		{0x01020304050607, 7, "\x01\x02\x03\x04\x05\x06\x07"},
		{1<<56 - 1, 7, "\xff\xff\xff\xff\xff\xff\xff"},
		{0, 7, "\x00\x00\x00\x00\x00\x00\x00"},
	} {
		wantText(t, fmt.Sprintf("BytesOf(%d, %d)", r.n, r.k), impl.BytesOf(r.n, r.k), r.want)
	}
}

func TestBytesOfWrong(t *testing.T) {
	for k := int64(1); k <= 7; k++ {
		limit := int64(1) << (8 * k)
		for _, n := range append([]int64{limit, limit + 1, 2 * limit, 256 * (limit / 2)}, outsiders...) {
			wantText(t, fmt.Sprintf("BytesOf(%d, %d)", n, k), impl.BytesOf(n, k), "")
		}
	}
	for _, k := range append([]int64{0, 8, 9, 15, 16, 64, 257, 1<<32 + 1}, outsiders...) {
		for _, n := range append([]int64{0, 1, 255, 256, 1<<56 - 1, 1 << 56}, outsiders...) {
			wantText(t, fmt.Sprintf("BytesOf(%d, %d)", n, k), impl.BytesOf(n, k), "")
		}
	}
}

func TestNumAtPlaces(t *testing.T) {
	s := "\x01\x02\x03\x04\x05\x06\x07\x08\xff"
	for k := int64(1); k <= 7; k++ {
		last := int64(len(s)) - k
		for at := int64(0); at <= last; at++ {
			want := int64(0)
			for i := range k {
				want = want*256 + int64(s[at+i])
			}
			n, ok := impl.NumAt(s, at, k)
			if !ok || n != want {
				t.Errorf("NumAt(s, %d, %d): %d, %v, want %d", at, k, n, ok, want)
			}
		}
		for _, at := range append([]int64{last + 1, int64(len(s)), int64(len(s)) + 1, greatestInt - k, greatestInt - k + 1}, outsiders...) {
			wantNoNumber(t, s, at, k)
		}
	}
}

func TestNumAtWrong(t *testing.T) {
	s := strings.Repeat("\xff", 20)
	for _, k := range append([]int64{0, 8, 9, 20, 64}, outsiders...) {
		for _, at := range append([]int64{0, 1, 12, 13, 19, 20, 21}, outsiders...) {
			wantNoNumber(t, s, at, k)
			wantNoNumber(t, "", at, k)
		}
	}
	for k := int64(1); k <= 7; k++ {
		wantNoNumber(t, "", 0, k)
		wantNoNumber(t, s[:k-1], 0, k)
	}
}

func wantNoNumber(t *testing.T, s string, at int64, k int64) {
	t.Helper()
	if n, ok := impl.NumAt(s, at, k); ok || n != 0 {
		t.Errorf("NumAt(%q, %d, %d): %d, %v, want 0, false", s, at, k, n, ok)
	}
}

func TestSumOf(t *testing.T) {
	for _, r := range []struct {
		s    string
		want int64
	}{
		{"", 65535},
		{"\x00", 65535},
		{"\x00\x00", 65535},
		{strings.Repeat("\x00", 101), 65535},
		{"\x00\x01", 65534},
		{"\x01", 0xfeff},
		{"\x01\x00", 0xfeff},
		{"\xff", 0x00ff},
		{"\xff\xff", 0},
		{"\xff\xff\x00\x00", 0},
		{"\xff\xfe\x00\x01", 0},
		{"\xff\xff\xff\xff", 0},
		{"\xff\xff\x00\x01", 0xfffe},
		{"\xff\xff\xff\xff\x00\x01", 0xfffe},
		{"\x80\x00\x80\x00", 0xfffe},
		{"\x00\x01\xf2\x03\xf4\xf5\xf6\xf7", 0x220d},
		{"\x12\x34\x56", 0x97cb},
		{"\x45\x00\x00\x73\x00\x00\x40\x00\x40\x11\x00\x00\xc0\xa8\x00\x01\xc0\xa8\x00\xc7", 0xb861},
		{strings.Repeat("\xff", 300000), 0},
		{strings.Repeat("\xff", 300001), 0x00ff},
	} {
		wantNumber(t, fmt.Sprintf("SumOf of %d bytes (%.20q)", len(r.s), r.s), impl.SumOf(r.s), r.want)
	}
}

// evenTexts have even numbers of bytes, and among them sums of 0 and of 65535.
func evenTexts() []string {
	list := []string{"", "\x00\x00", "\xff\xff", "\x00\x01", "\xff\xfe\x00\x01", "\xff\xff\xff\xff", "\x00\x00\x00\x00", "\x00\x00\xff\xff", "\x00\x01\x00\x00"}
	m := maker{state: 1}
	for size := 2; size <= 64; size += 2 {
		list = append(list, m.text(size), strings.Repeat("\xff", size), strings.Repeat("\x00", size-1)+"\x01")
	}
	return append(list, m.text(1500), m.text(65534))
}

func TestSumBehindBytesIsNought(t *testing.T) {
	for _, s := range evenTexts() {
		sum := impl.SumOf(s)
		if sum < 0 || sum > 65535 {
			t.Fatalf("SumOf is %d", sum)
		}
		wantNumber(t, fmt.Sprintf("the sum of %d bytes (%.20q) and their sum", len(s), s), impl.SumOf(s+impl.BytesOf(sum, 2)), 0)
	}
}

func TestSumFixedIsSumOfBytes(t *testing.T) {
	m := maker{state: 2}
	for _, s := range evenTexts() {
		if len(s) > 64 {
			continue
		}
		for at := 0; at < len(s); at += 2 {
			for _, now := range []int64{0, 1, 255, 256, 65534, 65535, m.below(65536)} {
				checkFix(t, s, at, now)
			}
		}
	}
}

func checkFix(t *testing.T, s string, at int, now int64) {
	t.Helper()
	old := int64(s[at])<<8 | int64(s[at+1])
	changed := s[:at] + string([]byte{byte(now >> 8), byte(now & 255)}) + s[at+2:]
	want := impl.SumOf(changed)
	if strings.Trim(changed, "\x00") == "" {
		// The one place where the two ways of adding part: there nothing is left of what was added.
		want = 0
	}
	wantNumber(t, fmt.Sprintf("%q with %d at %d", s, now, at), impl.SumFix(impl.SumOf(s), old, now), want)
}

func TestSumFix(t *testing.T) {
	for _, r := range [][4]int64{
		{0xdd2f, 0x5555, 0x3285, 0},
		{0, 0, 0, 0},
		{0, 0, 65535, 0},
		{0, 65535, 0, 0},
		{0, 65535, 65535, 0},
		{65535, 0, 0, 0},
		{65535, 0, 65535, 0},
		{65535, 65535, 65535, 0},
		{65535, 65535, 0, 65535},
		{65535, 0, 1, 65534},
		{65534, 1, 2, 65533},
		{0x1234, 0x4007, 0x4006, 0x1235},
	} {
		wantNumber(t, fmt.Sprintf("SumFix(%d, %d, %d)", r[0], r[1], r[2]), impl.SumFix(r[0], r[1], r[2]), r[3])
	}
}

func TestSumFixWrong(t *testing.T) {
	for _, bad := range append([]int64{65536, 65537, 1 << 32}, outsiders...) {
		for _, good := range []int64{0, 1, 65535} {
			wantNumber(t, fmt.Sprintf("SumFix of a sum of %d", bad), impl.SumFix(bad, good, good), -1)
			wantNumber(t, fmt.Sprintf("SumFix of old %d", bad), impl.SumFix(good, bad, good), -1)
			wantNumber(t, fmt.Sprintf("SumFix of now %d", bad), impl.SumFix(good, good, bad), -1)
		}
	}
}

func TestHexComesBack(t *testing.T) {
	all := ""
	for c := range 256 {
		s := string([]byte{byte(c)})
		wantText(t, "HexOf", impl.HexOf(s), fmt.Sprintf("%02x", c))
		all += s
	}
	for size := range 257 {
		s := all[256-size:]
		text := impl.HexOf(s)
		wantNumber(t, "digits", int64(len(text)), int64(2*size))
		back, ok := impl.ReadHex(text)
		if !ok || back != s {
			t.Errorf("%q came back as %q, %v", s, back, ok)
		}
	}
}

func TestReadHexDigits(t *testing.T) {
	const digits = "0123456789abcdef"
	for c := range 256 {
		one := string([]byte{byte(c)})
		value := strings.Index(digits, one)
		for _, text := range []string{one + "0", "0" + one, "7f" + one + "0", one + "00a"} {
			s, ok := impl.ReadHex(text)
			if ok != (value >= 0) {
				t.Errorf("ReadHex(%q): %v", text, ok)
			}
			if !ok {
				wantText(t, "what is refused", s, "")
			} else {
				wantText(t, "what is read, told again", impl.HexOf(s), text)
			}
		}
	}
}

func TestReadHexWrong(t *testing.T) {
	for _, text := range []string{"0", "f", "00a", "0a0b0", "AB", "aB", "0x", "0x00", " 0", "0 ", "00 ", "00\n", "00 00", "-1", "+1", "gg", "\x00\x00", "\u0660\u0661"} {
		if s, ok := impl.ReadHex(text); ok || s != "" {
			t.Errorf("ReadHex(%q): %q, %v", text, s, ok)
		}
	}
}

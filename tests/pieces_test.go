package tests

import (
	"fmt"
	"slices"
	"strings"
	"testing"

	"loop.example/g00675/impl"
)

func TestPieceNumbers(t *testing.T) {
	for want, code := range []int64{impl.FrOk, impl.FrForm, impl.FrDf, impl.FrOpts} {
		wantNumber(t, "a code of pieces", code, int64(want))
	}
	wantNumber(t, "MinMtu", impl.MinMtu, 68)
}

func wantCopied(t *testing.T, opts string, want string) {
	t.Helper()
	got, ok := impl.CopiedOpts(opts)
	if !ok || got != want {
		t.Errorf("copied of %q: got %q, %v, want %q", opts, got, ok, want)
	}
}

func wantNotCopied(t *testing.T, opts string) {
	t.Helper()
	got, ok := impl.CopiedOpts(opts)
	if ok || got != "" {
		t.Errorf("copied of %q: got %q, %v, want none", opts, got, ok)
	}
}

func ones(size int) string {
	return strings.Repeat("\x01", size)
}

// An option of size bytes in all.
func option(first byte, size int) string {
	return string([]byte{first, byte(size)}) + strings.Repeat("x", size-2)
}

func TestCopiedOpts(t *testing.T) {
	for _, r := range []struct{ opts, want string }{
		{"", ""}, {"\x01", ""}, {ones(3), ""}, {ones(40), ""},
		{"\x00", ""}, {noughts(40), ""}, {"\x00\x82\x04ab", ""}, {"\x01\x00\x82\x04ab", ""}, {"\x00\x07", ""}, {"\x00\x82\x01", ""}, {"\x00\x82\xff", ""},
		{"\x82\x04ab", "\x82\x04ab"}, {"\x82\x04ab\x00\x07", "\x82\x04ab"}, {"\x82\x04ab\x00\x83\x04cd", "\x82\x04ab"},
		{"\x07\x04ab", ""}, {"\x07\x04ab\x82\x04cd", "\x82\x04cd"}, {"\x82\x04ab\x07\x04cd", "\x82\x04ab"}, {"\x82\x04ab\x07\x04cd\x83\x04ef", "\x82\x04ab\x83\x04ef"},
		{"\x82\x04\x00\x00", "\x82\x04\x00\x00"}, {"\x82\x04\x01\x82", "\x82\x04\x01\x82"}, {"\x07\x04\x82\x02", ""}, {"\x07\x04\x00\x82\x82\x02", "\x82\x02\x00\x00"},
		{"\x82\x02", "\x82\x02\x00\x00"}, {"\x07\x02", ""}, {"\x07\x02\x82\x02", "\x82\x02\x00\x00"}, {"\x82\x02\x83\x02", "\x82\x02\x83\x02"},
		{"\x82\x03a", "\x82\x03a\x00"}, {"\x82\x05abc", "\x82\x05abc\x00\x00\x00"}, {"\x82\x06abcd", "\x82\x06abcd\x00\x00"}, {"\x82\x07abcde", "\x82\x07abcde\x00"}, {"\x82\x08abcdef", "\x82\x08abcdef"},
		{"\x01\x83\x03a\x01\x84\x03b", "\x83\x03a\x84\x03b\x00\x00"}, {"\x82\x03a\x01", "\x82\x03a\x00"}, {"\x82\x03a\x00", "\x82\x03a\x00"},
	} {
		wantCopied(t, r.opts, r.want)
	}
	for size := 2; size <= 40; size++ {
		copied := option(200, size)
		wantCopied(t, copied, copied+noughts((40-size)%4))
		wantCopied(t, copied+ones(40-size), copied+noughts((40-size)%4))
		wantCopied(t, option(100, size), "")
	}
}

func TestFirstByteOfAnOption(t *testing.T) {
	for first := 2; first < 256; first++ {
		opts := option(byte(first), 4)
		if first < 128 {
			wantCopied(t, opts, "")
			wantCopied(t, "\x80\x02"+opts, "\x80\x02\x00\x00")
		} else {
			wantCopied(t, opts, opts)
			wantCopied(t, "\x7f\x02"+opts, opts)
		}
	}
}

func TestOptsThatAreNotWhole(t *testing.T) {
	for first := 2; first < 256; first++ {
		b := string([]byte{byte(first)})
		for _, opts := range []string{b, b + "\x00", b + "\x01", b + "\x03", b + "\x05ab", b + "\xff", b + "\x00ab", b + "\x01ab", b + "\x29" + noughts(38)} {
			wantNotCopied(t, opts)
			for _, ahead := range []string{"\x01", "\x82\x02", "\x07\x02"} {
				if len(ahead+opts) <= 40 {
					wantNotCopied(t, ahead+opts)
				}
			}
		}
	}
	for _, opts := range []string{noughts(41), ones(41), noughts(44), noughts(1000), option(130, 41), option(130, 40) + "\x00", option(130, 40) + "\x01", ones(70000)} {
		wantNotCopied(t, opts)
	}
}

// plainCopied goes from an option to the next by their lengths alone.
func plainCopied(opts string) (string, bool) {
	if len(opts) > 40 {
		return "", false
	}
	out := ""
	for i := 0; i < len(opts) && opts[i] != 0; {
		if opts[i] == 1 {
			i++
			continue
		}
		if i+1 == len(opts) || opts[i+1] < 2 || i+int(opts[i+1]) > len(opts) {
			return "", false
		}
		end := i + int(opts[i+1])
		if opts[i] > 127 {
			out += opts[i:end]
		}
		i = end
	}
	for len(out)%4 > 0 {
		out += "\x00"
	}
	return out, true
}

func TestCopiedOptsAgainstPlain(t *testing.T) {
	m := maker{state: 71}
	whole := 0
	for range 20000 {
		opts := make([]byte, m.below(43))
		for i := range opts {
			opts[i] = []byte{0, 1, 2, 2, 3, 4, 5, 127, 128, 129, 130, 255}[m.below(12)]
		}
		want, ok := plainCopied(string(opts))
		if !ok {
			wantNotCopied(t, string(opts))
			continue
		}
		whole++
		wantCopied(t, string(opts), want)
		wantCopied(t, want, want)
	}
	if whole < 2000 {
		t.Errorf("only %d were whole", whole)
	}
}

// A datagram, and what of its options goes with all its pieces.
type cutCase struct {
	p      impl.Ip
	copied string
}

func cutCases() []cutCase {
	m := maker{state: 72}
	var list []cutCase
	for _, r := range []struct{ opts, copied string }{
		{"", ""}, {"\x82\x04ab", "\x82\x04ab"}, {"\x07\x04ab", ""}, {"\x82\x04ab\x07\x03c\x00", "\x82\x04ab"}, {"\x01\x82\x03a", "\x82\x03a\x00"},
		{"\x07\x07abcde\x83\x02\x00\x00\x00", "\x83\x02\x00\x00"}, {option(130, 40), option(130, 40)}, {option(7, 40), ""}, {option(7, 20) + option(130, 20), option(130, 20)}, {noughts(40), ""},
	} {
		for _, size := range []int{0, 1, 8, 9, 48, 49, 100, 104, 500, 1600} {
			p := impl.Ip{Tos: m.below(256), Id: m.below(65536), Ttl: m.below(256), Proto: m.below(256), Src: m.below(addrEnd), Dst: m.below(addrEnd), Opts: r.opts, Data: m.text(size)}
			list = append(list, cutCase{p, r.copied})
			p.Off = 1 + m.below(7000)
			list = append(list, cutCase{p, r.copied})
			if size%8 == 0 {
				p.Mf = true
				list = append(list, cutCase{p, r.copied})
				p.Off = 0
				list = append(list, cutCase{p, r.copied})
			}
		}
	}
	return list
}

func sizeOf(p impl.Ip) int64 {
	return 20 + int64(len(p.Opts)) + int64(len(p.Data))
}

// plainPieces takes 8 bytes more as long as these fit and do not hold all that is left.
func plainPieces(c cutCase, mtu int64) []impl.Ip {
	var list []impl.Ip
	at, end := 0, len(c.p.Data)
	for {
		piece := c.p
		piece.Off += int64(at / 8)
		if at > 0 {
			piece.Opts = c.copied
		}
		piece.Data = c.p.Data[at:]
		if sizeOf(piece) <= mtu {
			return append(list, piece)
		}
		piece.Mf = true
		size := 0
		for at+size+8 <= end && 20+int64(len(piece.Opts)+size+8) <= mtu {
			size += 8
		}
		piece.Data = c.p.Data[at : at+size]
		list = append(list, piece)
		at += size
	}
}

func wantPieces(t *testing.T, what string, p impl.Ip, mtu int64, want []impl.Ip) []impl.Ip {
	t.Helper()
	got, code := impl.Fragments(p, mtu)
	if code != impl.FrOk || !slices.Equal(got, want) {
		t.Fatalf("%s: %d, %d pieces, want %d: %s", what, code, len(got), len(want), brief(got))
	}
	return got
}

func wantJoined(t *testing.T, what string, l []impl.Ip, want impl.Ip) {
	t.Helper()
	if !impl.Tiles(l) {
		t.Errorf("%s: they do not tile", what)
	}
	got, ok := impl.Joined(l)
	if !ok || got != want {
		t.Errorf("%s: joined %s, %v, want %s", what, brief(got), ok, brief(want))
	}
}

func wantWithin(t *testing.T, what string, l []impl.Ip, mtu int64) {
	t.Helper()
	for i, p := range l {
		if !impl.IpOk(p) || int64(len(impl.IpBytes(p))) > mtu {
			t.Errorf("%s: piece %d has %d bytes", what, i, sizeOf(p))
		}
	}
}

var mtus = []int64{68, 69, 75, 76, 77, 83, 84, 100, 127, 128, 129, 576, 1500, 65535}

// Promise 7.
func TestPiecesAreOneAgain(t *testing.T) {
	for _, c := range cutCases() {
		for _, mtu := range mtus {
			what := fmt.Sprintf("%d bytes with %d of options by %d", len(c.p.Data), len(c.p.Opts), mtu)
			l := wantPieces(t, what, c.p, mtu, plainPieces(c, mtu))
			wantWithin(t, what, l, mtu)
			wantJoined(t, what, l, c.p)
		}
	}
}

func TestPiecesOfPieces(t *testing.T) {
	for _, c := range cutCases() {
		for i, mtu := range mtus {
			for _, less := range mtus[:i+1] {
				what := fmt.Sprintf("%d bytes with %d of options by %d, then %d", len(c.p.Data), len(c.p.Opts), mtu, less)
				l, _ := impl.Fragments(c.p, mtu)
				var all []impl.Ip
				for at, piece := range l {
					part := cutCase{piece, c.copied}
					more := wantPieces(t, what, piece, less, plainPieces(part, less))
					wantJoined(t, fmt.Sprint(what, ", piece ", at), more, piece)
					all = append(all, more...)
				}
				wantWithin(t, what, all, less)
				wantJoined(t, what, all, c.p)
			}
		}
	}
}

// Each field of each piece, written out.
func TestPiecesByHand(t *testing.T) {
	p := impl.Ip{Tos: 4, Id: 77, Ttl: 9, Proto: 17, Src: 1, Dst: 2, Opts: "\x07\x04ab\x82\x03c\x00", Data: "0123456701234567012345670123456701234567ABCDEFGHABCDEFGHABCDEFGHABCDEFGHABCDEFGHABCDEFGH1"}
	first, second, third := p, p, p
	first.Mf, first.Data = true, p.Data[:40]
	second.Mf, second.Off, second.Opts, second.Data = true, 5, "\x82\x03c\x00", p.Data[40:80]
	third.Off, third.Opts, third.Data = 10, "\x82\x03c\x00", p.Data[80:]
	wantPieces(t, "89 bytes", p, 68, []impl.Ip{first, second, third})

	p.Off, p.Mf, p.Data = 100, true, p.Data[:88]
	first.Off, second.Off, third.Off = 100, 105, 110
	third.Mf, third.Data = true, p.Data[80:]
	wantPieces(t, "88 bytes of a piece", p, 68, []impl.Ip{first, second, third})
}

func TestAsManyBytesAsAsked(t *testing.T) {
	for _, opts := range []string{"", "\x82\x04ab", "\x07\x04ab", option(130, 40)} {
		for mtu := int64(68); mtu <= 92; mtu++ {
			room := int(mtu) - 20 - len(opts)
			p := impl.Ip{Id: 5, Opts: opts, Data: noughts(room)}
			wantPieces(t, "just as many", p, mtu, []impl.Ip{p})
			p.Df = true
			wantPieces(t, "just as many with Df", p, mtu, []impl.Ip{p})
			p.Df, p.Data = false, noughts(room+1)
			l, code := impl.Fragments(p, mtu)
			if code != impl.FrOk || len(l) != 2 || len(l[0].Data) != room/8*8 || !l[0].Mf || l[1].Mf || l[1].Off != int64(room/8) {
				t.Errorf("one more than %d: %d, %v", mtu, code, l)
			}
			wantJoined(t, "one more", l, p)
		}
	}
}

// The last one may have any number of bytes that fits, also more than a piece ahead of it may have.
func TestLastPieceHasWhatIsLeft(t *testing.T) {
	for size := 52; size <= 110; size++ {
		p := impl.Ip{Id: 5, Data: noughts(size)}
		l, _ := impl.Fragments(p, 71)
		want := 2
		if size > 48+51 {
			want = 3
		}
		if len(l) != want || len(l[0].Data) != 48 || len(l[len(l)-1].Data) != size-48*(want-1) {
			t.Errorf("%d bytes: %v", size, l)
		}
	}
}

func TestLongestInPieces(t *testing.T) {
	m := maker{state: 73}
	for _, c := range []cutCase{
		{impl.Ip{Id: 9, Data: m.text(65515)}, ""}, {impl.Ip{Id: 9, Off: 1, Data: m.text(65507)}, ""}, {impl.Ip{Id: 9, Off: 1, Mf: true, Data: m.text(65504)}, ""},
		{impl.Ip{Opts: option(130, 40), Data: m.text(65475)}, option(130, 40)}, {impl.Ip{Opts: option(30, 40), Data: m.text(65475)}, ""}, {impl.Ip{Off: 4095, Opts: option(130, 40), Data: m.text(32755)}, option(130, 40)},
	} {
		for _, mtu := range []int64{68, 1500, 65534, 65535} {
			what := fmt.Sprintf("%d bytes by %d", len(c.p.Data), mtu)
			l := wantPieces(t, what, c.p, mtu, plainPieces(c, mtu))
			wantWithin(t, what, l, mtu)
			wantJoined(t, what, l, c.p)
		}
	}
}

func wantNotCut(t *testing.T, what string, p impl.Ip, mtu int64, want int64) {
	t.Helper()
	l, code := impl.Fragments(p, mtu)
	if code != want || len(l) != 0 {
		t.Errorf("%s: %d, %s, want %d and none", what, code, brief(l), want)
	}
}

func TestFragmentsForm(t *testing.T) {
	small, long := impl.Ip{Id: 1, Data: "1"}, impl.Ip{Id: 1, Data: noughts(300)}
	long.Df = true
	for _, mtu := range append([]int64{0, 1, 8, 20, 28, 60, 66, 67, 65536, 65537, 1 << 20}, outsiders...) {
		for _, p := range []impl.Ip{small, long, {}, {Opts: "\x82\x09ab", Data: noughts(100)}} {
			wantNotCut(t, fmt.Sprint("by ", mtu), p, mtu, impl.FrForm)
		}
	}
	for _, p := range badIps() {
		for _, mtu := range []int64{67, 68, 1500, 65535, 65536} {
			wantNotCut(t, "no Ip: "+brief(p), p, mtu, impl.FrForm)
		}
		p.Df = true
		wantNotCut(t, "no Ip: "+brief(p), p, 68, impl.FrForm)
	}
	for _, mtu := range []int64{68, 65535} {
		wantPieces(t, fmt.Sprint("by ", mtu), small, mtu, []impl.Ip{small})
	}
}

func TestFragmentsDfAndOpts(t *testing.T) {
	for _, opts := range []string{"\x82\x09ab", "\x82\x01ab", "\x07\x00\x00\x00", "\x01\x01\x01\x82", "\x82\x02\x07\x03"} {
		for _, r := range []struct {
			df   bool
			want int64
		}{{true, impl.FrDf}, {false, impl.FrOpts}} {
			p := impl.Ip{Df: r.df, Opts: opts, Data: noughts(44)}
			wantPieces(t, "as many as asked", p, 68, []impl.Ip{p})
			wantNotCut(t, "more than asked", p, 67, impl.FrForm)
			p.Data = noughts(45)
			wantNotCut(t, "one more than asked", p, 68, r.want)
			wantPieces(t, "one less than may be", p, 69, []impl.Ip{p})
			p.Mf, p.Data = true, noughts(48)
			wantNotCut(t, "a piece with one more than asked", p, 68, r.want)
		}
	}
	wantNotCut(t, "Df", impl.Ip{Df: true, Data: noughts(49)}, 68, impl.FrDf)
	wantNotCut(t, "Df, good options", impl.Ip{Df: true, Opts: "\x82\x04ab", Data: noughts(45)}, 68, impl.FrDf)
	wantNotCut(t, "Df, a piece", impl.Ip{Df: true, Off: 7, Data: noughts(49)}, 68, impl.FrDf)
	wantNotCut(t, "Df, the longest", impl.Ip{Df: true, Data: noughts(65515)}, 65534, impl.FrDf)
}

func wantNoTiles(t *testing.T, what string, l []impl.Ip) {
	t.Helper()
	if impl.Tiles(l) {
		t.Errorf("%s: they tile", what)
	}
	if p, ok := impl.Joined(l); ok || p != (impl.Ip{}) {
		t.Errorf("%s: joined %s, %v", what, brief(p), ok)
	}
}

func threePieces() []impl.Ip {
	l, _ := impl.Fragments(impl.Ip{Tos: 1, Id: 3, Ttl: 9, Proto: 17, Src: 4, Dst: 5, Opts: "\x82\x04ab\x07\x04cd", Data: noughts(99) + "z"}, 68)
	return l
}

func TestTiles(t *testing.T) {
	l := threePieces()
	wantNoTiles(t, "none", nil)
	wantNoTiles(t, "none", []impl.Ip{})
	for i, p := range l {
		wantJoined(t, fmt.Sprint("one alone, ", i), []impl.Ip{p}, p)
		for _, q := range badIps() {
			other := slices.Clone(l)
			other[i] = q
			wantNoTiles(t, fmt.Sprintf("no Ip at %d", i), other)
		}
	}
	for _, p := range goodIps() {
		wantJoined(t, "one alone", []impl.Ip{p}, p)
	}
	for _, p := range badIps() {
		wantNoTiles(t, "one alone that is no Ip", []impl.Ip{p})
	}
	for _, order := range [][]int{{0, 2}, {1, 0}, {2, 1}, {2, 0}, {0, 0}, {1, 1}, {2, 2}, {0, 2, 1}, {1, 0, 2}, {1, 2, 0}, {2, 1, 0}, {0, 1, 1, 2}, {0, 0, 1, 2}, {0, 1, 2, 2}} {
		var other []impl.Ip
		for _, at := range order {
			other = append(other, l[at])
		}
		wantNoTiles(t, fmt.Sprint("in the order ", order), other)
	}
}

// Each field that all must have, and what tells their order, changed in one of them.
func TestTilesFields(t *testing.T) {
	for i := range 3 {
		for name, change := range map[string]func(p *impl.Ip){
			"Id": func(p *impl.Ip) { p.Id++ }, "Proto": func(p *impl.Ip) { p.Proto++ }, "Src": func(p *impl.Ip) { p.Src++ }, "Dst": func(p *impl.Ip) { p.Dst++ },
			"Src and Dst": func(p *impl.Ip) { p.Src, p.Dst = p.Dst, p.Src }, "Off": func(p *impl.Ip) { p.Off++ }, "Off by much": func(p *impl.Ip) { p.Off = 4000 },
		} {
			l := threePieces()
			change(&l[i])
			wantNoTiles(t, fmt.Sprintf("another %s at %d", name, i), l)
		}
		for name, change := range map[string]func(p *impl.Ip){
			"Tos": func(p *impl.Ip) { p.Tos++ }, "Ttl": func(p *impl.Ip) { p.Ttl++ }, "Df": func(p *impl.Ip) { p.Df = true }, "Opts": func(p *impl.Ip) { p.Opts = "none" },
		} {
			l := threePieces()
			change(&l[i])
			want := l[0]
			want.Mf, want.Data = false, noughts(99)+"z"
			wantJoined(t, fmt.Sprintf("another %s at %d", name, i), l, want)
		}
	}
}

func TestTilesData(t *testing.T) {
	for i := range 2 {
		for _, size := range []int{0, 8, 32, 48} {
			l := threePieces()
			l[i].Data = noughts(size)
			wantNoTiles(t, fmt.Sprintf("%d bytes at %d", size, i), l)
		}
	}
	for i := 1; i < 3; i++ {
		l := threePieces()
		l[i].Off--
		wantNoTiles(t, fmt.Sprint("less Off at ", i), l)
	}
}

func TestTilesMf(t *testing.T) {
	for i := range 2 {
		l := threePieces()
		l[i].Mf = false
		wantNoTiles(t, fmt.Sprint("without Mf at ", i), l)
	}
	l := threePieces()
	l[2].Data = "12345678"
	want := l[0]
	want.Mf, want.Data = false, noughts(80)+"12345678"
	wantJoined(t, "without Mf at the end", l, want)
	l[2].Mf, want.Mf = true, true
	wantJoined(t, "with Mf at the end", l, want)
	want = l[1]
	want.Data = noughts(40) + "12345678"
	wantJoined(t, "pieces that are not from the start", l[1:], want)
	empty := impl.Ip{Id: 3, Mf: true, Off: 7}
	last := impl.Ip{Id: 3, Off: 7, Data: "abc"}
	wantJoined(t, "nothing ahead", []impl.Ip{empty, empty, last}, last)
	last.Off = 8
	wantNoTiles(t, "nothing ahead, and a gap", []impl.Ip{empty, last})
	wantNoTiles(t, "a last one behind which is one", []impl.Ip{{Id: 3, Data: "12345678"}, {Id: 3, Off: 1, Data: "1"}})
	wantNoTiles(t, "a last one of no 8 bytes behind which is one", []impl.Ip{{Id: 3, Data: "12345"}, {Id: 3, Data: "1"}})
}

func TestJoinedIsTooLong(t *testing.T) {
	for size := 0; size <= 40; size += 4 {
		first := impl.Ip{Id: 3, Mf: true, Opts: noughts(size), Data: noughts(800)}
		for _, more := range []int{-1, 0, 1, 2, 40} {
			last := impl.Ip{Id: 3, Off: 100, Data: noughts(65515 - 800 - size + more)}
			l := []impl.Ip{first, last}
			if more > 0 {
				if impl.Tiles(l) != impl.IpOk(last) {
					t.Errorf("%d of options, %d more", size, more)
				}
				if p, ok := impl.Joined(l); ok || p != (impl.Ip{}) {
					t.Errorf("%d of options, %d more: joined", size, more)
				}
				continue
			}
			want := first
			want.Mf, want.Data = false, noughts(65515-size+more)
			wantJoined(t, fmt.Sprintf("%d of options, %d more", size, more), l, want)
		}
	}
	last := impl.Ip{Id: 3, Off: 100, Opts: noughts(40), Data: noughts(64715)}
	want := impl.Ip{Id: 3, Data: noughts(65515)}
	wantJoined(t, "options at the last one alone", []impl.Ip{{Id: 3, Mf: true, Data: noughts(800)}, last}, want)
}

func ipTexts(l ...impl.Ip) []string {
	var out []string
	for _, p := range l {
		out = append(out, p.Opts, p.Data)
	}
	return out
}

func wantApart(t *testing.T, what string, answer []string, arguments []string) {
	t.Helper()
	for _, a := range answer {
		for _, b := range arguments {
			if sharesBytes(a, b) {
				t.Errorf("%s: %.40q of the answer is %.40q of an argument", what, a, b)
			}
		}
	}
}

func TestPiecesAreNewMemory(t *testing.T) {
	for _, opts := range []string{"\x82\x04ab", "\x82\x03a", option(130, 40), "\x07\x04ab\x82\x04cd"} {
		opts = strings.Clone(opts)
		copied, _ := impl.CopiedOpts(opts)
		wantApart(t, "CopiedOpts", []string{copied}, []string{opts})
		for _, size := range []int{1, 8, 44, 100, 1000} {
			p := impl.Ip{Id: 3, Opts: opts + noughts((40-len(opts))%4), Data: noughts(size)}
			l, _ := impl.Fragments(p, 68)
			wantApart(t, "Fragments", ipTexts(l...), ipTexts(p))
			for i := range l {
				whole, _ := impl.Joined(l[i:])
				wantApart(t, "Joined", ipTexts(whole), ipTexts(l...))
			}
		}
	}
}

func TestListsOfPiecesStay(t *testing.T) {
	room := append(threePieces(), threePieces()...)
	kept := slices.Clone(room)
	for size := range len(room) {
		impl.Tiles(room[:size])
		impl.Joined(room[:size])
	}
	wantRules(t, "a list and the room behind it", room, kept)
}

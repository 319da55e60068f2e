package tests

import (
	"fmt"
	"slices"
	"strings"
	"testing"

	"loop.example/g00675/impl"
)

// The first place that no byte of a datagram has.
const byteEnd = 65515

func TestBufferNumbers(t *testing.T) {
	for want, code := range []int64{impl.BfDone, impl.BfForm, impl.BfFull, impl.BfTotal, impl.BfPieces, impl.BfLong, impl.BfWait} {
		wantNumber(t, "a code of buffers", code, int64(want))
	}
	wantNumber(t, "MaxPieces", impl.MaxPieces, 16)
	wantNumber(t, "MaxEntries", impl.MaxEntries, 4)
	wantNumber(t, "MaxTime", impl.MaxTime, 1000000000)
	wantNumber(t, "Wait", impl.Wait, 30)
}

// spread gives pieces of a byte each, a gap of one ahead of each.
func spread(size int) []impl.Piece {
	var l []impl.Piece
	for i := range size {
		l = append(l, impl.Piece{At: int64(2*i + 1), Data: "x"})
	}
	return l
}

func goodPieces() [][]impl.Piece {
	return [][]impl.Piece{
		nil, {}, {{Data: "a"}}, {{At: 7, Data: "abc"}}, {{Data: "a"}, {At: 2, Data: "b"}}, {{Data: "abc"}, {At: 4, Data: "b"}, {At: 100, Data: "c"}}, {{At: 1, Data: "a"}, {At: 3, Data: "b"}},
		{{At: byteEnd - 1, Data: "z"}}, {{At: byteEnd - 2, Data: "yz"}}, {{Data: noughts(byteEnd)}}, {{Data: noughts(byteEnd - 2)}, {At: byteEnd - 1, Data: "z"}}, {{At: 1, Data: noughts(byteEnd - 1)}},
		spread(1), spread(15), spread(16),
	}
}

func badPieces() [][]impl.Piece {
	list := [][]impl.Piece{
		{{}}, {{At: 7}}, {{Data: "a"}, {At: 2}}, {{}, {At: 2, Data: "a"}}, {{Data: "a"}, {At: 2}, {At: 4, Data: "b"}},
		{{Data: "a"}, {At: 1, Data: "b"}}, {{Data: "abc"}, {At: 3, Data: "b"}}, {{Data: "abc"}, {At: 2, Data: "b"}}, {{Data: "abc"}, {At: 1, Data: "b"}}, {{Data: "abc"}, {At: 1, Data: "bcdef"}},
		{{Data: "a"}, {Data: "a"}}, {{At: 2, Data: "b"}, {Data: "a"}}, {{At: 9, Data: "b"}, {At: 5, Data: "a"}}, {{Data: "a"}, {At: 9, Data: "b"}, {At: 5, Data: "c"}}, {{Data: "a"}, {At: 5, Data: "b"}, {At: 6, Data: "c"}},
		{{At: byteEnd, Data: "z"}}, {{At: byteEnd}}, {{At: byteEnd - 1, Data: "yz"}}, {{Data: noughts(byteEnd + 1)}}, {{At: 1, Data: noughts(byteEnd)}}, {{Data: "a"}, {At: byteEnd, Data: "z"}}, {{Data: noughts(200000)}},
		spread(17), spread(18), spread(1000),
	}
	for _, at := range outsiders {
		list = append(list, []impl.Piece{{At: at, Data: "a"}}, []impl.Piece{{Data: "a"}, {At: at, Data: "b"}}, []impl.Piece{{At: at, Data: "b"}, {At: 100, Data: "a"}}, []impl.Piece{{At: at}})
	}
	return list
}

func TestPiecesOk(t *testing.T) {
	for _, l := range goodPieces() {
		if !impl.PiecesOk(l) {
			t.Errorf("not so: %s", brief(l))
		}
	}
	for _, l := range badPieces() {
		if impl.PiecesOk(l) {
			t.Errorf("so: %s", brief(l))
		}
	}
}

func wantFilled(t *testing.T, l []impl.Piece, at int64, data string, want []impl.Piece) {
	t.Helper()
	got, ok := impl.Filled(l, at, data)
	if !ok || !slices.Equal(got, want) {
		t.Errorf("%s with %s at %d: %s, %v, want %s", brief(l), brief(data), at, brief(got), ok, brief(want))
	}
}

func wantNotFilled(t *testing.T, l []impl.Piece, at int64, data string) {
	t.Helper()
	got, ok := impl.Filled(l, at, data)
	if ok || len(got) != 0 {
		t.Errorf("%s with %s at %d: %s, %v, want none", brief(l), brief(data), at, brief(got), ok)
	}
}

func TestFilled(t *testing.T) {
	l := []impl.Piece{{At: 4, Data: "efgh"}, {At: 12, Data: "mn"}}
	for _, r := range []struct {
		at   int64
		data string
		want []impl.Piece
	}{
		{0, "A", []impl.Piece{{At: 0, Data: "A"}, l[0], l[1]}}, {2, "C", []impl.Piece{{At: 2, Data: "C"}, l[0], l[1]}}, {9, "J", []impl.Piece{l[0], {At: 9, Data: "J"}, l[1]}},
		{9, "JK", []impl.Piece{l[0], {At: 9, Data: "JK"}, l[1]}}, {15, "PQ", []impl.Piece{l[0], l[1], {At: 15, Data: "PQ"}}}, {99, "Z", []impl.Piece{l[0], l[1], {At: 99, Data: "Z"}}},
		{3, "D", []impl.Piece{{At: 3, Data: "Defgh"}, l[1]}}, {0, "ABCD", []impl.Piece{{At: 0, Data: "ABCDefgh"}, l[1]}}, {8, "I", []impl.Piece{{At: 4, Data: "efghI"}, l[1]}},
		{11, "L", []impl.Piece{l[0], {At: 11, Data: "Lmn"}}}, {14, "O", []impl.Piece{l[0], {At: 12, Data: "mnO"}}}, {8, "IJKL", []impl.Piece{{At: 4, Data: "efghIJKLmn"}}},
		{4, "EFGH", l}, {5, "FG", l}, {4, "E", l}, {7, "H", l}, {12, "MN", l}, {13, "N", l},
		{3, "DEF", []impl.Piece{{At: 3, Data: "Defgh"}, l[1]}}, {6, "GHIJ", []impl.Piece{{At: 4, Data: "efghIJ"}, l[1]}}, {2, "CDEFGHIJ", []impl.Piece{{At: 2, Data: "CDefghIJ"}, l[1]}},
		{6, "GHIJKLM", []impl.Piece{{At: 4, Data: "efghIJKLmn"}}}, {0, "ABCDEFGHIJKLMNOP", []impl.Piece{{At: 0, Data: "ABCDefghIJKLmnOP"}}}, {13, "NOP", []impl.Piece{l[0], {At: 12, Data: "mnOP"}}},
		{10, "KLMN", []impl.Piece{l[0], {At: 10, Data: "KLmn"}}}, {0, "", l}, {4, "", l}, {6, "", l}, {8, "", l}, {10, "", l}, {14, "", l}, {500, "", l}, {byteEnd, "", l},
	} {
		wantFilled(t, l, r.at, r.data, r.want)
	}
	wantFilled(t, nil, 0, "", nil)
	wantFilled(t, nil, 5, "", nil)
	wantFilled(t, nil, byteEnd, "", nil)
	wantFilled(t, nil, 5, "abc", []impl.Piece{{At: 5, Data: "abc"}})
}

func TestFilledToTheLastByte(t *testing.T) {
	full := noughts(byteEnd-1) + "z"
	wantFilled(t, nil, byteEnd-1, "z", []impl.Piece{{At: byteEnd - 1, Data: "z"}})
	wantFilled(t, nil, byteEnd-6, "123456", []impl.Piece{{At: byteEnd - 6, Data: "123456"}})
	wantFilled(t, nil, 0, full, []impl.Piece{{Data: full}})
	wantFilled(t, []impl.Piece{{Data: full}}, 0, strings.Repeat("x", byteEnd), []impl.Piece{{Data: full}})
	wantFilled(t, []impl.Piece{{At: byteEnd - 1, Data: "z"}}, 0, noughts(byteEnd-1), []impl.Piece{{Data: full}})
	wantFilled(t, []impl.Piece{{Data: full[:byteEnd-1]}}, byteEnd-1, "z", []impl.Piece{{Data: full}})
	for _, l := range goodPieces() {
		for at := int64(byteEnd - 3); at <= byteEnd; at++ {
			wantNotFilled(t, l, at, strings.Repeat("x", int(byteEnd-at+1)))
			wantNotFilled(t, l, at, strings.Repeat("x", int(byteEnd-at+9)))
		}
		wantNotFilled(t, l, 0, noughts(byteEnd+1))
		wantNotFilled(t, l, 1, noughts(byteEnd))
		for _, at := range append([]int64{byteEnd + 1, byteEnd + 2, 65536, 1 << 40}, outsiders...) {
			wantNotFilled(t, l, at, "")
			wantNotFilled(t, l, at, "x")
			wantNotFilled(t, l, at, noughts(int(min(max(-at, 0), 100))+2))
		}
	}
	for _, l := range badPieces() {
		for _, data := range []string{"", "x", noughts(300)} {
			wantNotFilled(t, l, 0, data)
			wantNotFilled(t, l, 50, data)
		}
	}
}

func TestSeventeenthPiece(t *testing.T) {
	l := spread(16)
	wantFilled(t, spread(15), 31, "x", l)
	wantFilled(t, l, 31, "y", l)
	wantFilled(t, l, 40, "", l)
	wantNotFilled(t, l, 33, "x")
	wantNotFilled(t, l, byteEnd-1, "x")
	wantFilled(t, l, 32, "y", append(spread(15), impl.Piece{At: 31, Data: "xy"}))
	wantFilled(t, l, 0, "y", append([]impl.Piece{{At: 0, Data: "yx"}}, l[1:]...))
	wantFilled(t, l, 2, "y", append([]impl.Piece{{At: 1, Data: "xyx"}}, l[2:]...))
	wantFilled(t, l, 0, strings.Repeat("y", 50), []impl.Piece{{Data: strings.Repeat("yx", 16) + strings.Repeat("y", 18)}})
	wide := append(spread(15), impl.Piece{At: 40, Data: "x"})
	wantNotFilled(t, wide, 32, "y")
	wantNotFilled(t, wide, 31, strings.Repeat("y", 8))
	wantFilled(t, wide, 31, strings.Repeat("y", 9), append(spread(15), impl.Piece{At: 31, Data: strings.Repeat("y", 9) + "x"}))
}

func wantHoles(t *testing.T, l []impl.Piece, total int64, want []impl.Piece) {
	t.Helper()
	if got := impl.Holes(l, total); !slices.Equal(got, want) {
		t.Errorf("%s of %d: %s, want %s", brief(l), total, brief(got), brief(want))
	}
}

func holeAt(from int64, to int64) impl.Piece {
	return impl.Piece{At: from, Data: noughts(int(to - from))}
}

func TestHoles(t *testing.T) {
	l := []impl.Piece{{At: 4, Data: "efgh"}, {At: 12, Data: "mn"}}
	for total := range int64(30) {
		var want []impl.Piece
		for _, h := range []impl.Piece{holeAt(0, 4), holeAt(8, 12), holeAt(14, 30)} {
			if end := min(h.At+int64(len(h.Data)), total); end > h.At {
				want = append(want, holeAt(h.At, end))
			}
		}
		wantHoles(t, l, total, want)
	}
	wantHoles(t, nil, 0, nil)
	wantHoles(t, nil, 1, []impl.Piece{holeAt(0, 1)})
	wantHoles(t, nil, byteEnd, []impl.Piece{holeAt(0, byteEnd)})
	wantHoles(t, l, byteEnd, []impl.Piece{holeAt(0, 4), holeAt(8, 12), holeAt(14, byteEnd)})
	wantHoles(t, []impl.Piece{{Data: noughts(byteEnd)}}, byteEnd, nil)
	wantHoles(t, []impl.Piece{{Data: noughts(byteEnd - 1)}}, byteEnd, []impl.Piece{holeAt(byteEnd-1, byteEnd)})
	wantHoles(t, []impl.Piece{{At: 1, Data: noughts(byteEnd - 1)}}, byteEnd, []impl.Piece{holeAt(0, 1)})
	var want []impl.Piece
	for i := range int64(16) {
		want = append(want, holeAt(2*i, 2*i+1))
	}
	wantHoles(t, spread(16), 32, want)
	wantHoles(t, spread(16), 33, append(want, holeAt(32, 33)))
	for _, l := range goodPieces() {
		for _, total := range append([]int64{byteEnd + 1, byteEnd + 2, 65536}, outsiders...) {
			wantHoles(t, l, total, nil)
		}
	}
	for _, l := range badPieces() {
		for _, total := range []int64{0, 1, 100, byteEnd} {
			wantHoles(t, l, total, nil)
		}
	}
}

// bytesAt has what came first at each place.
type bytesAt map[int64]byte

func (b bytesAt) fill(at int64, data string) {
	for i := range len(data) {
		if _, there := b[at+int64(i)]; !there {
			b[at+int64(i)] = data[i]
		}
	}
}

func (b bytesAt) holds(at int64) bool {
	_, there := b[at]
	return there
}

// The bytes from one place up to another, those that touch together, for which is says yes.
func (b bytesAt) runs(end int64, is func(at int64) bool) []impl.Piece {
	var l []impl.Piece
	for at := range end {
		if !is(at) {
			continue
		}
		if at == 0 || !is(at-1) {
			l = append(l, impl.Piece{At: at})
		}
		l[len(l)-1].Data += string([]byte{b[at]})
	}
	return l
}

// Promise 8: what is there stays.
func TestFilledAgainstPlainBytes(t *testing.T) {
	m := maker{state: 81}
	refused := 0
	for range 300 {
		var l []impl.Piece
		plain := bytesAt{}
		for range 40 {
			at, data := m.below(120), m.text(int(m.below(1+m.below(12))))
			more := bytesAt{}
			for k, v := range plain {
				more[k] = v
			}
			more.fill(at, data)
			want := more.runs(140, more.holds)
			if len(want) > 16 {
				wantNotFilled(t, l, at, data)
				refused++
				continue
			}
			wantFilled(t, l, at, data, want)
			l, plain = want, more
			total := m.below(140)
			wantHoles(t, l, total, plain.runs(total, func(at int64) bool { return !plain.holds(at) }))
		}
	}
	if refused == 0 {
		t.Error("nothing was refused")
	}
}

func sameEntry(a impl.Entry, b impl.Entry) bool {
	return a.Src == b.Src && a.Dst == b.Dst && a.Proto == b.Proto && a.Id == b.Id && a.Until == b.Until && a.Total == b.Total &&
		a.Has == b.Has && a.First == b.First && slices.Equal(a.Pieces, b.Pieces)
}

func sameBuf(a impl.Buf, b impl.Buf) bool {
	return slices.EqualFunc(a.Entries, b.Entries, sameEntry)
}

func copyOfBuf(b impl.Buf) impl.Buf {
	var out impl.Buf
	for _, e := range b.Entries {
		e.Pieces = slices.Clone(e.Pieces)
		out.Entries = append(out.Entries, e)
	}
	return out
}

// entryOf gives one that waits, with all that may be known.
func entryOf(id int64) impl.Entry {
	return impl.Entry{Src: 1, Dst: 2, Proto: 17, Id: id, Until: 50, Total: 100, Has: true,
		First: impl.Ip{Tos: 3, Id: id, Ttl: 9, Proto: 17, Src: 1, Dst: 2, Opts: "\x82\x04ab"}, Pieces: []impl.Piece{{Data: "12345678"}, {At: 24, Data: "abcdefgh"}}}
}

func bufOf(ids ...int64) impl.Buf {
	var b impl.Buf
	for _, id := range ids {
		b.Entries = append(b.Entries, entryOf(id))
	}
	return b
}

// changedBuf gives a buffer of one entry that is changed.
func changedBuf(change func(e *impl.Entry)) impl.Buf {
	b := bufOf(5)
	change(&b.Entries[0])
	return b
}

func goodBufs() []impl.Buf {
	list := []impl.Buf{
		{}, {Entries: []impl.Entry{{}}}, {Entries: []impl.Entry{{Total: -1}}}, bufOf(5), bufOf(5, 4), bufOf(0, 65535, 7), bufOf(4, 3, 2, 1),
		changedBuf(func(e *impl.Entry) { e.Until = 0 }), changedBuf(func(e *impl.Entry) { e.Until = 1000000000 }),
		changedBuf(func(e *impl.Entry) { e.Total = -1 }), changedBuf(func(e *impl.Entry) { e.Total = 32 }), changedBuf(func(e *impl.Entry) { e.Total = byteEnd }),
		changedBuf(func(e *impl.Entry) { e.Total, e.Pieces = 0, nil }), changedBuf(func(e *impl.Entry) { e.Total, e.Pieces = 8, e.Pieces[:1] }), changedBuf(func(e *impl.Entry) { e.Pieces = nil }),
		changedBuf(func(e *impl.Entry) { e.Has, e.First = false, impl.Ip{} }), changedBuf(func(e *impl.Entry) { e.First.Df = true }), changedBuf(func(e *impl.Entry) { e.First.Tos, e.First.Ttl, e.First.Opts = 0, 255, noughts(40) }),
		changedBuf(func(e *impl.Entry) { e.Src, e.First.Src = addrEnd-1, addrEnd-1 }), changedBuf(func(e *impl.Entry) { e.Dst, e.First.Dst = addrEnd-1, addrEnd-1 }), changedBuf(func(e *impl.Entry) { e.Proto, e.First.Proto = 255, 255 }),
	}
	for _, l := range goodPieces() {
		list = append(list, changedBuf(func(e *impl.Entry) { e.Total, e.Pieces = -1, l }), changedBuf(func(e *impl.Entry) { e.Total, e.Pieces = byteEnd, l }))
	}
	// Two that differ in one of the four alone.
	for _, change := range []func(e *impl.Entry){
		func(e *impl.Entry) { e.Src, e.First.Src = 2, 2 }, func(e *impl.Entry) { e.Dst, e.First.Dst = 1, 1 }, func(e *impl.Entry) { e.Proto, e.First.Proto = 6, 6 }, func(e *impl.Entry) { e.Id, e.First.Id = 6, 6 },
	} {
		b := bufOf(5, 5)
		change(&b.Entries[1])
		list = append(list, b)
	}
	return list
}

func badBufs() []impl.Buf {
	list := []impl.Buf{
		bufOf(1, 2, 3, 4, 5), bufOf(1, 2, 3, 4, 5, 6), bufOf(1, 1), bufOf(1, 2, 1), bufOf(3, 1, 2, 1), {Entries: make([]impl.Entry, 2)}, {Entries: make([]impl.Entry, 1000)},
		changedBuf(func(e *impl.Entry) { e.Until = 1000000001 }), changedBuf(func(e *impl.Entry) { e.Total = 31 }), changedBuf(func(e *impl.Entry) { e.Total = 0 }), changedBuf(func(e *impl.Entry) { e.Total = 24 }),
		changedBuf(func(e *impl.Entry) { e.Total = byteEnd + 1 }), changedBuf(func(e *impl.Entry) { e.Total, e.Pieces = byteEnd+1, nil }), changedBuf(func(e *impl.Entry) { e.Total, e.Pieces = -2, nil }),
		changedBuf(func(e *impl.Entry) { e.Total, e.Pieces = 7, e.Pieces[:1] }), changedBuf(func(e *impl.Entry) { e.Total, e.Pieces = 1, []impl.Piece{{At: 1, Data: "x"}} }),
		changedBuf(func(e *impl.Entry) { e.Has = false }), changedBuf(func(e *impl.Entry) { e.First = impl.Ip{} }), changedBuf(func(e *impl.Entry) { e.Has, e.First = false, impl.Ip{Ttl: 1} }),
		changedBuf(func(e *impl.Entry) { e.Has, e.First = false, impl.Ip{Df: true} }), changedBuf(func(e *impl.Entry) { e.Has, e.First = false, impl.Ip{Opts: noughts(4)} }),
		changedBuf(func(e *impl.Entry) { e.First.Data = "1" }), changedBuf(func(e *impl.Entry) { e.First.Data = "12345678" }), changedBuf(func(e *impl.Entry) { e.First.Mf = true }), changedBuf(func(e *impl.Entry) { e.First.Off = 1 }),
		changedBuf(func(e *impl.Entry) { e.First.Id++ }), changedBuf(func(e *impl.Entry) { e.First.Src++ }), changedBuf(func(e *impl.Entry) { e.First.Dst++ }), changedBuf(func(e *impl.Entry) { e.First.Proto++ }),
		changedBuf(func(e *impl.Entry) { e.Src, e.Dst = e.Dst, e.Src }), changedBuf(func(e *impl.Entry) { e.First.Tos = 256 }), changedBuf(func(e *impl.Entry) { e.First.Ttl = -1 }), changedBuf(func(e *impl.Entry) { e.First.Opts = "123" }),
	}
	for _, n := range outsiders {
		list = append(list, changedBuf(func(e *impl.Entry) { e.Until = n }), changedBuf(func(e *impl.Entry) { e.Src, e.First.Src = n, n }), changedBuf(func(e *impl.Entry) { e.Dst, e.First.Dst = n, n }),
			changedBuf(func(e *impl.Entry) { e.Proto, e.First.Proto = n, n }), changedBuf(func(e *impl.Entry) { e.Id, e.First.Id = n, n }))
		if n != -1 {
			list = append(list, changedBuf(func(e *impl.Entry) { e.Total, e.Pieces = n, nil }))
		}
	}
	for _, change := range []func(e *impl.Entry){
		func(e *impl.Entry) { e.Src = addrEnd }, func(e *impl.Entry) { e.Dst = addrEnd }, func(e *impl.Entry) { e.Proto = 256 }, func(e *impl.Entry) { e.Id = 65536 }, func(e *impl.Entry) { e.Src = -1 }, func(e *impl.Entry) { e.Id = -1 },
	} {
		b := changedBuf(func(e *impl.Entry) { e.Has, e.First = false, impl.Ip{} })
		change(&b.Entries[0])
		list = append(list, b)
	}
	for _, l := range badPieces() {
		list = append(list, changedBuf(func(e *impl.Entry) { e.Total, e.Pieces = -1, l }), changedBuf(func(e *impl.Entry) { e.Total, e.Pieces = byteEnd, l }))
	}
	// A wrong one behind right ones.
	for i := range list[7:] {
		list = append(list, impl.Buf{Entries: append(bufOf(1, 2, 3).Entries, list[7+i].Entries...)})
	}
	return list
}

func TestBufOk(t *testing.T) {
	for _, b := range goodBufs() {
		if !impl.BufOk(b) {
			t.Errorf("not so: %s", brief(b))
		}
	}
	for i, b := range badBufs() {
		if impl.BufOk(b) {
			t.Errorf("so, %d: %s", i, brief(b))
		}
	}
}

func wantOffer(t *testing.T, what string, b impl.Buf, p impl.Ip, now int64, wantBuf impl.Buf, wantIp impl.Ip, want int64) {
	t.Helper()
	got, q, code := impl.Offer(b, p, now)
	if code != want || q != wantIp || !sameBuf(got, wantBuf) {
		t.Errorf("%s: %d, %s, %s, want %d, %s, %s", what, code, brief(q), brief(got), want, brief(wantIp), brief(wantBuf))
	}
}

var badNows = append([]int64{1000000000 - 29, 1000000000, 1000000001}, outsiders...)

func TestOfferForm(t *testing.T) {
	piece, whole := impl.Ip{Src: 1, Dst: 2, Proto: 17, Id: 5, Mf: true, Data: "12345678"}, impl.Ip{Data: "hi"}
	for _, b := range badBufs() {
		wantOffer(t, "no buffer", b, piece, 0, impl.Buf{}, impl.Ip{}, impl.BfForm)
		wantOffer(t, "no buffer", b, whole, 0, impl.Buf{}, impl.Ip{}, impl.BfForm)
	}
	for _, b := range []impl.Buf{{}, bufOf(5), bufOf(1, 2, 3, 4)} {
		for _, p := range badIps() {
			wantOffer(t, "no Ip", b, p, 0, impl.Buf{}, impl.Ip{}, impl.BfForm)
			p.Mf = true
			wantOffer(t, "no Ip", b, p, 0, impl.Buf{}, impl.Ip{}, impl.BfForm)
		}
		for _, now := range badNows {
			wantOffer(t, fmt.Sprint("at ", now), b, piece, now, impl.Buf{}, impl.Ip{}, impl.BfForm)
			wantOffer(t, fmt.Sprint("at ", now), b, whole, now, impl.Buf{}, impl.Ip{}, impl.BfForm)
		}
	}
}

func TestOfferOfNoPiece(t *testing.T) {
	for _, b := range goodBufs() {
		for _, p := range goodIps() {
			if p.Mf || p.Off != 0 || len(p.Data) > 1000 {
				continue
			}
			wantOffer(t, "no piece", b, p, 7, b, p, impl.BfDone)
		}
		p := impl.Ip{Src: 1, Dst: 2, Proto: 17, Id: 5, Df: true, Data: noughts(byteEnd)}
		wantOffer(t, "no piece", b, p, 0, b, p, impl.BfDone)
		wantOffer(t, "no piece", b, p, 999999970, b, p, impl.BfDone)
	}
}

func withEntry(b impl.Buf, e impl.Entry) impl.Buf {
	b = copyOfBuf(b)
	b.Entries = append(b.Entries, e)
	return b
}

func TestOfferOfANewPiece(t *testing.T) {
	first := impl.Ip{Tos: 5, Id: 70, Ttl: 8, Proto: 6, Src: 3, Dst: 4, Df: true, Opts: "\x82\x04ab"}
	for _, b := range []impl.Buf{{}, bufOf(5), bufOf(5, 4), bufOf(5, 4, 3)} {
		for _, now := range []int64{0, 1, 20, 500, 999999969, 999999970} {
			e := impl.Entry{Src: 3, Dst: 4, Proto: 6, Id: 70, Until: now + 30, Total: -1}
			p := first
			p.Mf, p.Off, p.Data = true, 2, "abcdefgh"
			e.Pieces = []impl.Piece{{At: 16, Data: "abcdefgh"}}
			wantOffer(t, "one between", b, p, now, withEntry(b, e), impl.Ip{}, impl.BfWait)
			p.Data, e.Pieces = "", nil
			wantOffer(t, "an empty one between", b, p, now, withEntry(b, e), impl.Ip{}, impl.BfWait)
			p.Off, p.Data = 0, "abcdefgh"
			e.Has, e.First, e.Pieces = true, first, []impl.Piece{{Data: "abcdefgh"}}
			wantOffer(t, "the first", b, p, now, withEntry(b, e), impl.Ip{}, impl.BfWait)
			p.Data, e.Pieces = "", nil
			wantOffer(t, "an empty first", b, p, now, withEntry(b, e), impl.Ip{}, impl.BfWait)
			p.Mf, p.Off, p.Data = false, 2, "abc"
			e.Has, e.First, e.Total, e.Pieces = false, impl.Ip{}, 19, []impl.Piece{{At: 16, Data: "abc"}}
			wantOffer(t, "the last", b, p, now, withEntry(b, e), impl.Ip{}, impl.BfWait)
			p.Data, e.Total, e.Pieces = "", 16, nil
			wantOffer(t, "an empty last", b, p, now, withEntry(b, e), impl.Ip{}, impl.BfWait)
			p.Off, p.Data = 8189, "abc"
			e.Total, e.Pieces = byteEnd, []impl.Piece{{At: byteEnd - 3, Data: "abc"}}
			wantOffer(t, "the farthest last", b, p, now, withEntry(b, e), impl.Ip{}, impl.BfWait)
		}
	}
}

func TestOfferFull(t *testing.T) {
	b := bufOf(5, 4, 3, 2)
	for _, p := range []impl.Ip{
		{Src: 1, Dst: 2, Proto: 17, Id: 6, Mf: true, Data: "12345678"}, {Src: 2, Dst: 2, Proto: 17, Id: 5, Mf: true, Data: "12345678"}, {Src: 1, Dst: 1, Proto: 17, Id: 5, Off: 9, Data: "1"},
		{Src: 1, Dst: 2, Proto: 6, Id: 5, Off: 9}, {Src: 2, Dst: 1, Proto: 17, Id: 5, Mf: true}, {Src: 1, Dst: 2, Proto: 17, Id: 1, Off: 8189, Data: "123"},
	} {
		wantOffer(t, "a fifth one", b, p, 7, b, impl.Ip{}, impl.BfFull)
		// Entries whose time is over make no room by themselves.
		wantOffer(t, "a fifth one, later", b, p, 999, b, impl.Ip{}, impl.BfFull)
	}
	for i, e := range b.Entries {
		want := copyOfBuf(b)
		want.Entries[i].Pieces = []impl.Piece{{Data: "12345678ABCDEFGH"}, {At: 24, Data: "abcdefgh"}}
		p := impl.Ip{Src: 1, Dst: 2, Proto: 17, Id: e.Id, Mf: true, Off: 1, Data: "ABCDEFGH"}
		wantOffer(t, "one of these", b, p, 7, want, impl.Ip{}, impl.BfWait)
		wantOffer(t, "one of these, later", b, p, 999, want, impl.Ip{}, impl.BfWait)
	}
}

func TestOfferTotal(t *testing.T) {
	// There are bytes up to the 32nd, but not the first ones; all are 100, or it is not known.
	known := bufOf(9, 5)
	known.Entries[1].Pieces[0].At = 8
	unknown := copyOfBuf(known)
	unknown.Entries[1].Total = -1
	for off := int64(0); off <= 13; off++ {
		for size := 0; size <= 40; size++ {
			p := impl.Ip{Src: 1, Dst: 2, Proto: 17, Id: 5, Off: off, Data: strings.Repeat("x", size)}
			end := 8*off + int64(size)
			if off > 0 {
				wantTotal(t, known, p, end != 100)
				wantTotal(t, unknown, p, end < 32)
			}
			if size%8 == 0 {
				p.Mf = true
				wantTotal(t, known, p, end > 100)
				wantTotal(t, unknown, p, false)
			}
		}
	}
}

// wantTotal: whether a piece is refused for its end; if not, that what comes of it is right.
func wantTotal(t *testing.T, b impl.Buf, p impl.Ip, refused bool) {
	t.Helper()
	what := fmt.Sprintf("Off %d, %d bytes, Mf %v, Total %d", p.Off, len(p.Data), p.Mf, b.Entries[1].Total)
	if refused {
		wantOffer(t, what, b, p, 7, b, impl.Ip{}, impl.BfTotal)
		return
	}
	want := copyOfBuf(b)
	e := &want.Entries[1]
	e.Pieces, _ = impl.Filled(e.Pieces, 8*p.Off, p.Data)
	if !p.Mf {
		e.Total = 8*p.Off + int64(len(p.Data))
	}
	wantOffer(t, what, b, p, 7, want, impl.Ip{}, impl.BfWait)
}

func TestOfferTotalToTheEnd(t *testing.T) {
	b := changedBuf(func(e *impl.Entry) { e.Total = byteEnd })
	p := impl.Ip{Src: 1, Dst: 2, Proto: 17, Id: 5, Mf: true, Off: 8188, Data: "12345678"}
	want := copyOfBuf(b)
	want.Entries[0].Pieces = append(want.Entries[0].Pieces, impl.Piece{At: 65504, Data: "12345678"})
	wantOffer(t, "up to the end", b, p, 7, want, impl.Ip{}, impl.BfWait)
	p.Mf = false
	wantOffer(t, "another end", b, p, 7, b, impl.Ip{}, impl.BfTotal)
	p.Data = "12345678901"
	want.Entries[0].Pieces[2].Data = p.Data
	wantOffer(t, "the end", b, p, 7, want, impl.Ip{}, impl.BfWait)
	// Nothing may come, not even the empty last one behind what is there.
	none := changedBuf(func(e *impl.Entry) { e.Total, e.Pieces, e.Has, e.First = 0, nil, false, impl.Ip{} })
	wantOffer(t, "beyond nothing", none, impl.Ip{Src: 1, Dst: 2, Proto: 17, Id: 5, Mf: true, Data: "12345678"}, 7, none, impl.Ip{}, impl.BfTotal)
	wantOffer(t, "beyond nothing", none, impl.Ip{Src: 1, Dst: 2, Proto: 17, Id: 5, Mf: true, Off: 1}, 7, none, impl.Ip{}, impl.BfTotal)
	first := impl.Ip{Tos: 8, Src: 1, Dst: 2, Proto: 17, Id: 5}
	empty := first
	empty.Mf = true
	wantOffer(t, "nothing, whole", none, empty, 7, impl.Buf{}, first, impl.BfDone)
}

func TestOfferPieces(t *testing.T) {
	var l []impl.Piece
	for i := range int64(16) {
		l = append(l, impl.Piece{At: 8 + 16*i, Data: "12345678"})
	}
	for _, total := range []int64{-1, 1000} {
		b := changedBuf(func(e *impl.Entry) { e.Total, e.Pieces = total, l })
		p := impl.Ip{Src: 1, Dst: 2, Proto: 17, Id: 5, Mf: true, Off: 33, Data: "abcdefgh"}
		wantOffer(t, "a 17th piece", b, p, 7, b, impl.Ip{}, impl.BfPieces)
		want := copyOfBuf(b)
		want.Entries[0].Pieces[15].Data = "12345678abcdefgh"
		p.Off = 32
		wantOffer(t, "one that touches", b, p, 7, want, impl.Ip{}, impl.BfWait)
		p.Mf, p.Off, p.Data = false, 124, "abcdefgh"
		wantOffer(t, "a 17th piece, the last", b, p, 7, b, impl.Ip{}, impl.BfPieces)
		p.Data = "abcdefghi"
		wantOffer(t, "a last one that is a 17th and has another end", b, p, 7, b, impl.Ip{}, wantIf(total < 0, impl.BfPieces, impl.BfTotal))
	}
}

// The first bytes, and the first of what is ahead of them, are those that come out.
func TestFirstToComeWins(t *testing.T) {
	flow := impl.Ip{Src: 1, Dst: 2, Proto: 17, Id: 5}
	one, two, last := flow, flow, flow
	one.Tos, one.Ttl, one.Opts, one.Mf, one.Data = 1, 11, "\x82\x04ab", true, "aaaaaaaaaaaaaaaa"
	two.Tos, two.Ttl, two.Df, two.Mf, two.Data = 2, 22, true, true, "bbbbbbbbbbbbbbbbbbbbbbbb"
	last.Tos, last.Ttl, last.Off, last.Data = 3, 33, 1, "cccccccccccccccccccc"
	for _, r := range []struct {
		order []impl.Ip
		first impl.Ip
		data  string
	}{
		{[]impl.Ip{one, last}, one, "aaaaaaaaaaaaaaaacccccccccccc"}, {[]impl.Ip{two, last}, two, "bbbbbbbbbbbbbbbbbbbbbbbbcccc"}, {[]impl.Ip{last, one}, one, "aaaaaaaacccccccccccccccccccc"}, {[]impl.Ip{last, two}, two, "bbbbbbbbcccccccccccccccccccc"},
		{[]impl.Ip{one, two, last}, one, "aaaaaaaaaaaaaaaabbbbbbbbcccc"}, {[]impl.Ip{two, one, last}, two, "bbbbbbbbbbbbbbbbbbbbbbbbcccc"}, {[]impl.Ip{one, one, two, two, last}, one, "aaaaaaaaaaaaaaaabbbbbbbbcccc"},
	} {
		b := bufOf(7)
		for i, p := range r.order {
			c, q, code := impl.Offer(b, p, int64(i))
			if i < len(r.order)-1 {
				if code != impl.BfWait || q != (impl.Ip{}) || len(c.Entries) != 2 || c.Entries[1].Until != 30 {
					t.Errorf("%v: %d, %v, %v", r.order, code, q, c)
				}
				b = c
				continue
			}
			want := r.first
			want.Mf, want.Data = false, r.data
			if code != impl.BfDone || q != want || !sameBuf(c, bufOf(7)) {
				t.Errorf("%v: %d, %v, %v", r.order, code, q, c)
			}
		}
	}
}

func TestJoinedInABufferIsTooLong(t *testing.T) {
	for size := 0; size <= 40; size += 4 {
		first := impl.Ip{Id: 3, Mf: true, Opts: noughts(size), Data: noughts(800)}
		for _, more := range []int{-1, 0, 1, 4} {
			total := byteEnd - size + more
			if total > byteEnd {
				continue
			}
			last := impl.Ip{Id: 3, Off: 100, Data: noughts(total - 800)}
			for _, order := range [][]impl.Ip{{first, last}, {last, first}} {
				for _, others := range []impl.Buf{{}, bufOf(8), bufOf(8, 7, 6)} {
					b, _, code := impl.Offer(others, order[0], 1)
					wantNumber(t, "the code of one", code, impl.BfWait)
					want := first
					want.Mf, want.Data = false, noughts(total)
					if more > 0 {
						wantOffer(t, "too long", b, order[1], 2, others, impl.Ip{}, impl.BfLong)
					} else {
						wantOffer(t, "not too long", b, order[1], 2, others, want, impl.BfDone)
					}
				}
			}
		}
	}
}

func orders(size int) [][]int {
	if size == 0 {
		return [][]int{nil}
	}
	var list [][]int
	for _, less := range orders(size - 1) {
		for at := range size {
			list = append(list, slices.Insert(slices.Clone(less), at, size-1))
		}
	}
	return list
}

// wantOnce offers pieces in an order in which only the last one makes them whole.
func wantOnce(t *testing.T, others impl.Buf, pieces []impl.Ip, order []int, want impl.Ip) {
	t.Helper()
	b := others
	for i, at := range order {
		c, q, code := impl.Offer(b, pieces[at], int64(i))
		if !impl.BufOk(c) {
			t.Fatalf("order %v: no buffer behind %d", order, i)
		}
		if i == len(order)-1 {
			if code != impl.BfDone || q != want || !sameBuf(c, others) {
				t.Errorf("order %v: %d, %s", order, code, brief(q))
			}
			return
		}
		if code != impl.BfWait || q != (impl.Ip{}) || len(c.Entries) != len(others.Entries)+1 {
			t.Fatalf("order %v: %d behind %d", order, code, i)
		}
		b = c
	}
}

// Promise 8: all orders of up to 6 pieces.
func TestPiecesComeInAnyOrder(t *testing.T) {
	m := maker{state: 82}
	for size := 2; size <= 6; size++ {
		for _, opts := range []string{"", "\x82\x04ab\x07\x04cd"} {
			p := impl.Ip{Tos: m.below(256), Id: m.below(65536), Ttl: m.below(256), Proto: m.below(256), Src: m.below(addrEnd), Dst: m.below(addrEnd), Opts: opts, Data: m.text(40*size - 9)}
			pieces, _ := impl.Fragments(p, 68)
			for _, order := range orders(len(pieces)) {
				wantOnce(t, impl.Buf{}, pieces, order, p)
			}
			wantOnce(t, bufOf(5, 4, 3), pieces, orders(len(pieces))[1], p)
		}
	}
}

// Promise 8: up to 16 pieces, of pieces too, some of them twice or more ahead of the last one.
func TestPiecesComeTwice(t *testing.T) {
	m := maker{state: 83}
	most := 0
	for range 1500 {
		p := impl.Ip{Tos: m.below(256), Id: m.below(65536), Ttl: m.below(256), Proto: m.below(256), Src: m.below(addrEnd), Dst: m.below(addrEnd), Data: m.text(50 + int(m.below(700)))}
		p.Opts = []string{"", "\x82\x04ab", "\x07\x04ab", "\x07\x04ab\x82\x04cd"}[m.below(4)]
		pieces := cutTwice(&m, p)
		if len(pieces) < 2 || len(pieces) > 16 {
			continue
		}
		most = max(most, len(pieces))
		order := shuffled(&m, len(pieces))
		for range m.below(20) {
			// What is whole ahead of its end would come out sooner: the last one comes once.
			order = slices.Insert(order, int(m.below(int64(len(order)))), order[m.below(int64(len(order)-1))])
		}
		wantOnce(t, bufOf(1, 2, 3), pieces, order, p)
	}
	wantNumber(t, "the most pieces", int64(most), 16)
}

// Pieces of a datagram, some of which are in pieces again.
func cutTwice(m *maker, p impl.Ip) []impl.Ip {
	var list []impl.Ip
	l, _ := impl.Fragments(p, 68+m.below(200))
	for _, piece := range l {
		more, _ := impl.Fragments(piece, 68+m.below(200))
		list = append(list, more...)
	}
	return list
}

func TestSixteenPiecesInAnyOrder(t *testing.T) {
	m := maker{state: 84}
	p := impl.Ip{Id: 3, Ttl: 9, Proto: 47, Src: 1, Dst: 2, Data: m.text(48*15 + 5)}
	pieces, _ := impl.Fragments(p, 68)
	wantNumber(t, "how many pieces", int64(len(pieces)), 16)
	backward := []int{15, 14, 13, 12, 11, 10, 9, 8, 7, 6, 5, 4, 3, 2, 1, 0}
	byTwo := []int{0, 2, 4, 6, 8, 10, 12, 14, 1, 3, 5, 7, 9, 11, 13, 15}
	last := []int{15, 13, 11, 9, 7, 5, 3, 1, 14, 12, 10, 8, 6, 4, 2, 0}
	for _, order := range [][]int{backward, byTwo, last} {
		wantOnce(t, impl.Buf{}, pieces, order, p)
	}
	for range 300 {
		wantOnce(t, impl.Buf{}, pieces, shuffled(&m, 16), p)
	}
}

func TestLongestComesOut(t *testing.T) {
	m := maker{state: 85}
	for _, p := range []impl.Ip{{Id: 3, Data: m.text(byteEnd)}, {Id: 3, Opts: option(130, 40), Data: m.text(byteEnd - 40)}} {
		pieces, _ := impl.Fragments(p, 4400)
		if len(pieces) < 15 || len(pieces) > 16 {
			t.Fatalf("%d pieces", len(pieces))
		}
		for range 20 {
			wantOnce(t, bufOf(1), pieces, shuffled(&m, len(pieces)), p)
		}
	}
}

func plainBuf(l []*plainEntry) impl.Buf {
	var b impl.Buf
	for _, e := range l {
		entry := e.entry
		entry.Pieces = e.bytes.runs(400, e.bytes.holds)
		b.Entries = append(b.Entries, entry)
	}
	return b
}

// An entry whose bytes lie one by one.
type plainEntry struct {
	entry impl.Entry
	bytes bytesAt
}

func (e *plainEntry) end() int64 {
	end := int64(0)
	for at := range e.bytes {
		end = max(end, at+1)
	}
	return end
}

func (e *plainEntry) isWhole() bool {
	if e.entry.Total < 0 || !e.entry.Has {
		return false
	}
	for at := range e.entry.Total {
		if !e.bytes.holds(at) {
			return false
		}
	}
	return true
}

// plainOffer changes l as Offer should, of a piece below the 400th byte.
func plainOffer(l []*plainEntry, p impl.Ip, now int64) ([]*plainEntry, impl.Ip, int64) {
	if !p.Mf && p.Off == 0 {
		return l, p, impl.BfDone
	}
	var e *plainEntry
	for _, other := range l {
		if other.entry.Src == p.Src && other.entry.Dst == p.Dst && other.entry.Proto == p.Proto && other.entry.Id == p.Id {
			e = other
		}
	}
	if e == nil {
		if len(l) == 4 {
			return l, impl.Ip{}, impl.BfFull
		}
		e = &plainEntry{impl.Entry{Src: p.Src, Dst: p.Dst, Proto: p.Proto, Id: p.Id, Until: now + 30, Total: -1}, bytesAt{}}
		l = append(l, e)
	}
	end := 8*p.Off + int64(len(p.Data))
	if p.Mf && e.entry.Total >= 0 && end > e.entry.Total || !p.Mf && (e.entry.Total >= 0 && end != e.entry.Total || e.end() > end) {
		return l, impl.Ip{}, impl.BfTotal
	}
	more := bytesAt{}
	for at, v := range e.bytes {
		more[at] = v
	}
	more.fill(8*p.Off, p.Data)
	if len(more.runs(400, more.holds)) > 16 {
		return l, impl.Ip{}, impl.BfPieces
	}
	e.bytes = more
	if !p.Mf {
		e.entry.Total = end
	}
	if p.Off == 0 && !e.entry.Has {
		e.entry.Has, e.entry.First = true, p
		e.entry.First.Mf, e.entry.First.Data = false, ""
	}
	if !e.isWhole() {
		return l, impl.Ip{}, impl.BfWait
	}
	whole := e.entry.First
	for at := range e.entry.Total {
		whole.Data += string([]byte{e.bytes[at]})
	}
	return slices.DeleteFunc(l, func(other *plainEntry) bool { return other == e }), whole, impl.BfDone
}

func TestOfferAgainstPlainBytes(t *testing.T) {
	m := maker{state: 86}
	codes := make([]int, 7)
	for round := range 300 {
		var b impl.Buf
		var l []*plainEntry
		length, kinds := 8+m.below(40), 1+m.below(6)
		for now := range int64(60) {
			p := impl.Ip{Tos: m.below(256), Id: m.below(kinds), Ttl: m.below(256), Proto: 17, Src: 1, Dst: 2, Off: m.below(length), Mf: m.below(5) > 0, Opts: noughts(int(4 * m.below(3))), Data: m.text(int(8 * m.below(3)))}
			if !p.Mf && m.below(4) > 0 {
				p.Off, p.Data = length-1, "12345"
			}
			if round%3 == 0 {
				// Pieces with gaps, so that there are too many of them.
				p.Id, p.Mf, p.Off, p.Data = 0, true, 2*m.below(24), m.text(8)
			}
			kept := copyOfBuf(b)
			more, whole, want := plainOffer(l, p, now)
			got, q, code := impl.Offer(b, p, now)
			if code != want || q != whole || !sameBuf(got, plainBuf(more)) || !impl.BufOk(got) {
				t.Fatalf("%v, %v: %d, %v, %v, want %d, %v, %v", b, p, code, q, got, want, whole, plainBuf(more))
			}
			if !sameBuf(b, kept) {
				t.Fatalf("%v was written into: %v", kept, b)
			}
			codes[code]++
			b, l = got, more
		}
	}
	for _, code := range []int64{impl.BfDone, impl.BfFull, impl.BfTotal, impl.BfPieces, impl.BfWait} {
		if codes[code] < 10 {
			t.Errorf("code %d came %d times", code, codes[code])
		}
	}
}

func TestExpired(t *testing.T) {
	b := bufOf(1, 2, 3, 4)
	for i, until := range []int64{50, 30, 50, 1000000000} {
		b.Entries[i].Until = until
	}
	for _, now := range append([]int64{0, 1, 29, 30, 31, 49, 50, 51, 999999999, 1000000000, 1000000001}, outsiders...) {
		var want impl.Buf
		for _, e := range b.Entries {
			if e.Until > now {
				want.Entries = append(want.Entries, e)
			}
		}
		got, n := impl.Expired(b, now)
		if !sameBuf(got, want) || n != int64(4-len(want.Entries)) {
			t.Errorf("at %d: %d, %v", now, n, got)
		}
	}
	if got, n := impl.Expired(changedBuf(func(e *impl.Entry) { e.Until = 0 }), 0); n != 1 || len(got.Entries) != 0 {
		t.Errorf("Until 0 at 0: %d", n)
	}
	for _, b := range goodBufs() {
		if got, n := impl.Expired(b, -1); n != 0 || !sameBuf(got, b) {
			t.Errorf("at -1: %d, %s", n, brief(got))
		}
		if got, n := impl.Expired(b, 1000000000); n != int64(len(b.Entries)) || len(got.Entries) != 0 {
			t.Errorf("at the end of time: %d, %s", n, brief(got))
		}
	}
	for _, b := range badBufs() {
		for _, now := range []int64{-1, 0, 50, 1000000000} {
			if got, n := impl.Expired(b, now); n != -1 || len(got.Entries) != 0 {
				t.Errorf("no buffer at %d: %d, %s", now, n, brief(got))
			}
		}
	}
}

// An entry waits as long from its first piece on, whatever comes later.
func TestUntilStays(t *testing.T) {
	p := impl.Ip{Id: 3, Data: noughts(150)}
	pieces, _ := impl.Fragments(p, 68)
	b, _, _ := impl.Offer(impl.Buf{}, pieces[1], 100)
	b, _, _ = impl.Offer(b, pieces[0], 110)
	b, _, _ = impl.Offer(b, pieces[1], 129)
	if _, n := impl.Expired(b, 129); n != 0 {
		t.Error("gone too early")
	}
	b, n := impl.Expired(b, 130)
	if n != 1 || len(b.Entries) != 0 {
		t.Error("not gone")
	}
	b, q, code := impl.Offer(b, pieces[2], 131)
	if code != impl.BfWait || q != (impl.Ip{}) || len(b.Entries) != 1 || b.Entries[0].Until != 161 || b.Entries[0].Has {
		t.Errorf("what comes later: %d, %v", code, b)
	}
}

func pieceTexts(l []impl.Piece) []string {
	var out []string
	for _, p := range l {
		out = append(out, p.Data)
	}
	return out
}

func bufTexts(b impl.Buf) []string {
	var out []string
	for _, e := range b.Entries {
		out = append(out, ipTexts(e.First)...)
		out = append(out, pieceTexts(e.Pieces)...)
	}
	return out
}

// roomy gives a buffer with room behind its lists, and what is in all of that.
func roomy() (impl.Buf, []impl.Entry, [][]impl.Piece) {
	room := append(bufOf(1, 2, 3).Entries, entryOf(77))
	var pieces [][]impl.Piece
	for i := range room {
		full := append(slices.Clone(room[i].Pieces), impl.Piece{At: 5000, Data: "behind"}, impl.Piece{At: 6000, Data: "all"})
		pieces = append(pieces, full)
		room[i].Pieces = full[:2]
	}
	return impl.Buf{Entries: room[:3]}, room, pieces
}

func wantRoom(t *testing.T, what string, room []impl.Entry, pieces [][]impl.Piece) {
	t.Helper()
	_, wantEntries, wantPieces := roomy()
	if !slices.EqualFunc(room, wantEntries, sameEntry) {
		t.Errorf("%s: entries were written: %v", what, room)
	}
	for i := range pieces {
		if !slices.Equal(pieces[i], wantPieces[i]) {
			t.Errorf("%s: pieces were written: %v", what, pieces[i])
		}
	}
}

// spoil writes all over a buffer and over the room behind its lists.
func spoil(b impl.Buf) {
	for _, e := range b.Entries {
		l := e.Pieces[:cap(e.Pieces)]
		for i := range l {
			l[i] = impl.Piece{At: -9, Data: "spoilt"}
		}
	}
	l := b.Entries[:cap(b.Entries)]
	for i := range l {
		l[i] = impl.Entry{Src: -9}
	}
}

func TestBuffersStayAndAreNewMemory(t *testing.T) {
	offers := []impl.Ip{
		{Src: 1, Dst: 2, Proto: 17, Id: 1, Data: strings.Clone("hello"), Opts: strings.Clone("none")}, {Src: 1, Dst: 2, Proto: 17, Id: 4, Mf: true, Opts: strings.Clone("none"), Data: strings.Clone("abcdefgh")},
		{Src: 1, Dst: 2, Proto: 17, Id: 2, Mf: true, Off: 6, Data: strings.Clone("abcdefgh")}, {Src: 1, Dst: 2, Proto: 17, Id: 3, Off: 6, Data: strings.Clone("abcdefgh")}, {Src: 1, Dst: 2, Proto: 17, Id: 2, Mf: true, Off: 1, Data: strings.Clone("abcdefghabcdefgh")},
		{Src: 1, Dst: 2, Proto: 17, Id: 9, Off: 3, Data: strings.Clone("abc")}, {Src: 1, Dst: 2, Proto: 17, Id: 1, Mf: true, Off: 1, Data: noughts(96)}, {Src: 1, Dst: 2, Proto: 17, Id: 2, Off: 1, Data: noughts(92)},
	}
	for i, p := range offers {
		b, room, pieces := roomy()
		got, q, code := impl.Offer(b, p, 7)
		what := fmt.Sprintf("offer %d, code %d", i, code)
		wantRoom(t, what, room, pieces)
		wantApart(t, what, append(bufTexts(got), ipTexts(q)...), append(bufTexts(b), ipTexts(p)...))
		spoil(got)
		wantRoom(t, what+", spoilt", room, pieces)
	}
	for _, now := range []int64{0, 49, 50} {
		b, room, pieces := roomy()
		got, _ := impl.Expired(b, now)
		wantRoom(t, "Expired", room, pieces)
		wantApart(t, "Expired", bufTexts(got), bufTexts(b))
		spoil(got)
		wantRoom(t, "Expired, spoilt", room, pieces)
	}
	full := bufOf(1, 2, 3, 4)
	got, _, code := impl.Offer(full, offers[5], 7)
	wantNumber(t, "the code of a fifth one", code, impl.BfFull)
	wantApart(t, "BfFull", bufTexts(got), bufTexts(full))
	spoil(got)
	if !sameBuf(full, bufOf(1, 2, 3, 4)) {
		t.Errorf("BfFull: %v", full)
	}
}

// The first piece comes last: its options go into what comes out at once.
func TestWhatComesOutIsNewMemory(t *testing.T) {
	first := impl.Ip{Id: 3, Mf: true, Opts: strings.Clone("none"), Data: strings.Clone("abcdefgh")}
	last := impl.Ip{Id: 3, Off: 1, Data: strings.Clone("ijk")}
	for _, order := range [][]impl.Ip{{first, last}, {last, first}} {
		b, _, _ := impl.Offer(impl.Buf{}, order[0], 7)
		wantApart(t, "what waits", bufTexts(b), ipTexts(order[0]))
		_, p, code := impl.Offer(b, order[1], 7)
		wantNumber(t, "the code", code, impl.BfDone)
		wantApart(t, "what comes out", ipTexts(p), append(bufTexts(b), ipTexts(first, last)...))
	}
}

func TestPiecesStayAndAreNewMemory(t *testing.T) {
	full := []impl.Piece{{At: 4, Data: strings.Clone("efgh")}, {At: 12, Data: strings.Clone("mn")}, {At: 5000, Data: "behind"}, {At: 6000, Data: "all"}}
	kept := slices.Clone(full)
	l := full[:2]
	for at := range int64(20) {
		for _, size := range []int{0, 1, 4, 20} {
			data := strings.Repeat("x", size)
			got, _ := impl.Filled(l, at, data)
			wantApart(t, "Filled", pieceTexts(got), append(pieceTexts(l), data))
			spoil(impl.Buf{Entries: []impl.Entry{{Pieces: got}}})
			spoil(impl.Buf{Entries: []impl.Entry{{Pieces: impl.Holes(l, at)}}})
			impl.PiecesOk(l)
			wantRules(t, "pieces and the room behind them", full, kept)
		}
	}
}

// What is spoilt in one list of an answer is not seen in another one of it.
func TestListsOfAnAnswerAreApart(t *testing.T) {
	b, _, code := impl.Offer(bufOf(1, 2, 3), impl.Ip{Src: 1, Dst: 2, Proto: 17, Id: 2, Mf: true, Off: 8, Data: "abcdefgh"}, 7)
	wantNumber(t, "the code", code, impl.BfWait)
	kept := copyOfBuf(b)
	for i := range b.Entries {
		l := b.Entries[i].Pieces[:cap(b.Entries[i].Pieces)]
		for at := range l {
			l[at] = impl.Piece{At: -9}
		}
		for j := i + 1; j < len(b.Entries); j++ {
			if !sameEntry(b.Entries[j], kept.Entries[j]) {
				t.Errorf("%d is seen in %d", i, j)
			}
		}
	}
}

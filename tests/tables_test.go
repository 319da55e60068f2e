package tests

import (
	"cmp"
	"fmt"
	"slices"
	"testing"

	"loop.example/g00675/impl"
)

const keyEnd = 1 << 48

var (
	goodActs = []int64{1, 2, 50, 98, 99}
	badActs  = append([]int64{0, 100, 101, 256}, outsiders...)
	badKeys  = append([]int64{keyEnd, keyEnd + 1, 1 << 50}, outsiders...)
	badAddrs = append([]int64{addrEnd, addrEnd + 1, 1 << 40}, outsiders...)
	badBits  = append([]int64{33, 34, 63, 64, 65, 255}, outsiders...)
	badPris  = append([]int64{1001, 1002, 65536}, outsiders...)
)

func wantRules[R comparable](t *testing.T, what string, got []R, want []R) {
	t.Helper()
	if !slices.Equal(got, want) {
		t.Errorf("%s: got %v, want %v", what, got, want)
	}
}

func wantPut[R comparable](t *testing.T, what string, got []R, code int64, want []R) {
	t.Helper()
	if code != impl.TbOk {
		t.Errorf("%s: code %d", what, code)
	}
	wantRules(t, what, got, want)
}

func wantNotPut[R any](t *testing.T, what string, got []R, code int64, want int64) {
	t.Helper()
	if code != want || len(got) != 0 {
		t.Errorf("%s: %v, %d, want %d and no table", what, got, code, want)
	}
}

func TestTableNumbers(t *testing.T) {
	for want, code := range []int64{impl.TbOk, impl.TbForm, impl.TbFull} {
		wantNumber(t, "a code of tables", code, int64(want))
	}
	wantNumber(t, "MaxRules", impl.MaxRules, 32)
}

// exactsOf gives a table of size rules.
func exactsOf(size int) []impl.Exact {
	var l []impl.Exact
	for i := range int64(size) {
		l = append(l, impl.Exact{Key: 10 * i, Act: 1 + i%99})
	}
	return l
}

func prefixesOf(size int) []impl.Prefix {
	var l []impl.Prefix
	for i := range int64(size) {
		l = append(l, impl.Prefix{Addr: i << 8, Bits: 24, Act: 1 + i%99})
	}
	return l
}

func ternsOf(size int) []impl.Tern {
	var l []impl.Tern
	for i := range int64(size) {
		l = append(l, impl.Tern{Value: i, Mask: 255, Pri: 500, Act: 1 + i%99})
	}
	return l
}

func noExactTables() [][]impl.Exact {
	list := [][]impl.Exact{
		{{Key: 2, Act: 1}, {Key: 1, Act: 1}}, {{Key: 1, Act: 1}, {Key: 1, Act: 1}}, {{Key: 1, Act: 1}, {Key: 1, Act: 2}}, {{Key: 1, Act: 1}, {Key: 3, Act: 1}, {Key: 2, Act: 1}},
		{{Key: 1, Act: 1}, {Key: 2, Act: 0}}, exactsOf(33), exactsOf(34), exactsOf(1000),
	}
	for _, n := range badKeys {
		list = append(list, []impl.Exact{{Key: n, Act: 1}}, []impl.Exact{{Key: n, Act: 1}, {Key: 5, Act: 1}}, []impl.Exact{{Key: 5, Act: 1}, {Key: n, Act: 1}})
	}
	for _, n := range badActs {
		list = append(list, []impl.Exact{{Key: 5, Act: n}}, []impl.Exact{{Key: 4, Act: 1}, {Key: 5, Act: n}}, []impl.Exact{{Key: 5, Act: n}, {Key: 6, Act: 1}})
	}
	return list
}

func TestExactPut(t *testing.T) {
	var l []impl.Exact
	for _, key := range []int64{5, 9, 7, 0, keyEnd - 1, 8} {
		l, _ = impl.ExactPut(l, key, key%98+1)
	}
	want := []impl.Exact{{Key: 0, Act: 1}, {Key: 5, Act: 6}, {Key: 7, Act: 8}, {Key: 8, Act: 9}, {Key: 9, Act: 10}, {Key: keyEnd - 1, Act: (keyEnd-1)%98 + 1}}
	wantRules(t, "six keys", l, want)
	for i := range want {
		for _, act := range goodActs {
			other := slices.Clone(want)
			other[i].Act = act
			got, code := impl.ExactPut(want, want[i].Key, act)
			wantPut(t, fmt.Sprintf("key %d again with %d", want[i].Key, act), got, code, other)
			wantNumber(t, "its act", impl.ExactFind(got, want[i].Key), act)
		}
		wantRules(t, "dropped", impl.ExactDrop(want, want[i].Key), slices.Delete(slices.Clone(want), i, i+1))
	}
	for _, key := range append([]int64{1, 4, 6, 10, keyEnd - 2}, badKeys...) {
		wantNumber(t, fmt.Sprint("the act of ", key), impl.ExactFind(want, key), 0)
		wantRules(t, fmt.Sprint("without ", key), impl.ExactDrop(want, key), want)
	}
	wantNumber(t, "the act in no rules", impl.ExactFind(nil, 5), 0)
	wantRules(t, "nothing dropped", impl.ExactDrop(nil, 5), nil)
	wantRules(t, "the only one dropped", impl.ExactDrop(want[:1], 0), nil)
}

func TestExactForm(t *testing.T) {
	for _, l := range [][]impl.Exact{nil, exactsOf(1), exactsOf(31), exactsOf(32)} {
		for _, key := range badKeys {
			got, code := impl.ExactPut(l, key, 1)
			wantNotPut(t, fmt.Sprint("key ", key), got, code, impl.TbForm)
		}
		for _, act := range badActs {
			got, code := impl.ExactPut(l, 5, act)
			wantNotPut(t, fmt.Sprint("act ", act), got, code, impl.TbForm)
		}
	}
	for _, l := range noExactTables() {
		what := fmt.Sprintf("what is no table, %.80v", l)
		for _, key := range []int64{l[0].Key, l[len(l)-1].Key, 5, 77} {
			got, code := impl.ExactPut(l, key, 1)
			wantNotPut(t, what, got, code, impl.TbForm)
			wantNumber(t, what, impl.ExactFind(l, key), 0)
			wantRules(t, what, impl.ExactDrop(l, key), nil)
		}
	}
}

func TestExactFull(t *testing.T) {
	l, code := impl.ExactPut(exactsOf(31), 310, 32)
	wantPut(t, "the 32nd rule", l, code, exactsOf(32))
	for _, key := range []int64{1, 155, 311, keyEnd - 1} {
		got, code := impl.ExactPut(l, key, 1)
		wantNotPut(t, fmt.Sprint("one more, of ", key), got, code, impl.TbFull)
	}
	for i, r := range l {
		other := slices.Clone(l)
		other[i].Act = 99
		got, code := impl.ExactPut(l, r.Key, 99)
		wantPut(t, fmt.Sprint("what is there, of ", r.Key), got, code, other)
		less := impl.ExactDrop(l, r.Key)
		wantNumber(t, "rules that are left", int64(len(less)), 31)
		got, code = impl.ExactPut(less, r.Key+5, 7)
		if code != impl.TbOk || len(got) != 32 || impl.ExactFind(got, r.Key+5) != 7 || impl.ExactFind(got, r.Key) != 0 {
			t.Errorf("in place of %d: %v, %d", r.Key, got, code)
		}
	}
}

func behind(addr int64, bits int64) int64 {
	return addr % (1 << (32 - bits))
}

func noPrefixTables() [][]impl.Prefix {
	list := [][]impl.Prefix{
		{{Bits: 8, Act: 1}, {Bits: 7, Act: 1}}, {{Bits: 8, Act: 1}, {Bits: 8, Act: 1}}, {{Bits: 8, Act: 1}, {Bits: 8, Act: 2}}, {{Bits: 0, Act: 1}, {Bits: 0, Act: 2}},
		{{Addr: 2, Bits: 32, Act: 1}, {Addr: 1, Bits: 32, Act: 1}}, {{Addr: 1 << 24, Bits: 8, Act: 1}, {Addr: 0, Bits: 8, Act: 1}}, {{Addr: 1, Bits: 32, Act: 1}, {Addr: 2 << 24, Bits: 8, Act: 1}},
		{{Addr: 1, Bits: 31, Act: 1}}, {{Addr: 1, Bits: 0, Act: 1}}, {{Addr: 1 << 31, Bits: 0, Act: 1}}, {{Addr: 0x0a000001, Bits: 8, Act: 1}}, {{Addr: 0x0a800000, Bits: 8, Act: 1}},
		{{Bits: 8, Act: 1}, {Addr: 0x0a0000ff, Bits: 24, Act: 1}}, prefixesOf(33), prefixesOf(1000),
	}
	for _, n := range badAddrs {
		list = append(list, []impl.Prefix{{Addr: n, Bits: 32, Act: 1}}, []impl.Prefix{{Addr: n, Bits: 0, Act: 1}}, []impl.Prefix{{Bits: 0, Act: 1}, {Addr: n, Bits: 8, Act: 1}})
	}
	for _, n := range badBits {
		list = append(list, []impl.Prefix{{Bits: n, Act: 1}}, []impl.Prefix{{Addr: 1 << 31, Bits: n, Act: 1}}, []impl.Prefix{{Bits: 0, Act: 1}, {Bits: n, Act: 1}})
	}
	for _, n := range badActs {
		list = append(list, []impl.Prefix{{Bits: 8, Act: n}}, []impl.Prefix{{Bits: 7, Act: 1}, {Bits: 8, Act: n}})
	}
	return list
}

// Each number of bits alone: what is behind them is made 0, and every address that begins so is found, no other.
func TestPrefixBits(t *testing.T) {
	m := maker{state: 17}
	for bits := range int64(33) {
		for _, addr := range []int64{0, addrEnd - 1, 0x0a0b0c0d, m.below(addrEnd), m.below(addrEnd)} {
			start := addr - behind(addr, bits)
			want := []impl.Prefix{{Addr: start, Bits: bits, Act: 9}}
			l, code := impl.PrefixPut(nil, addr, bits, 9)
			wantPut(t, fmt.Sprintf("%d bits of %x", bits, addr), l, code, want)
			end := start + 1<<(32-bits) - 1
			for _, key := range []int64{start, end, addr, start + m.below(1<<(32-bits))} {
				wantNumber(t, fmt.Sprintf("%x by %d bits of %x", key, bits, addr), impl.PrefixFind(l, key), 9)
			}
			for _, key := range append([]int64{start - 1, end + 1}, badAddrs...) {
				wantNumber(t, fmt.Sprintf("%x by %d bits of %x", key, bits, addr), impl.PrefixFind(l, key), 0)
			}
			wantRules(t, "dropped by its end", impl.PrefixDrop(l, end, bits), nil)
			wantRules(t, "dropped by its start", impl.PrefixDrop(l, start, bits), nil)
			wantRules(t, "other bits dropped", impl.PrefixDrop(l, start, (bits+1)%33), want)
			if bits > 0 {
				wantRules(t, "another address dropped", impl.PrefixDrop(l, addr^(1<<31), bits), want)
			}
		}
	}
}

func TestMostBitsWin(t *testing.T) {
	var l []impl.Prefix
	for _, bits := range []int64{16, 32, 0, 24, 8, 31} {
		l, _ = impl.PrefixPut(l, 0x0a010203, bits, bits+1)
	}
	wantRules(t, "in order", l, []impl.Prefix{{Bits: 0, Act: 1}, {Addr: 0x0a000000, Bits: 8, Act: 9}, {Addr: 0x0a010000, Bits: 16, Act: 17},
		{Addr: 0x0a010200, Bits: 24, Act: 25}, {Addr: 0x0a010202, Bits: 31, Act: 32}, {Addr: 0x0a010203, Bits: 32, Act: 33}})
	for _, r := range []struct{ addr, bits int64 }{{0x0a010203, 32}, {0x0a010202, 31}, {0x0a010204, 24}, {0x0a0103ff, 16}, {0x0a020203, 8}, {0x0b010203, 0}, {0, 0}, {addrEnd - 1, 0}} {
		wantNumber(t, fmt.Sprintf("the act of %x", r.addr), impl.PrefixFind(l, r.addr), r.bits+1)
	}
	for _, bits := range []int64{32, 31, 24, 16, 8, 0} {
		wantNumber(t, fmt.Sprint("the act with ", bits), impl.PrefixFind(l, 0x0a010203), bits+1)
		l = impl.PrefixDrop(l, 0x0a010203, bits)
	}
	wantRules(t, "all dropped", l, nil)
	wantNumber(t, "the act in no rules", impl.PrefixFind(l, 0x0a010203), 0)
}

func TestPrefixForm(t *testing.T) {
	for _, l := range [][]impl.Prefix{nil, prefixesOf(1), prefixesOf(31), prefixesOf(32)} {
		for _, addr := range badAddrs {
			for _, bits := range []int64{0, 8, 32} {
				got, code := impl.PrefixPut(l, addr, bits, 1)
				wantNotPut(t, fmt.Sprintf("address %d, %d bits", addr, bits), got, code, impl.TbForm)
				wantRules(t, fmt.Sprintf("without address %d, %d bits", addr, bits), impl.PrefixDrop(l, addr, bits), l)
			}
			wantNumber(t, fmt.Sprint("the act of ", addr), impl.PrefixFind(l, addr), 0)
		}
		for _, bits := range badBits {
			got, code := impl.PrefixPut(l, 0, bits, 1)
			wantNotPut(t, fmt.Sprint(bits, " bits"), got, code, impl.TbForm)
			wantRules(t, fmt.Sprint("without ", bits, " bits"), impl.PrefixDrop(l, 0, bits), l)
		}
		for _, act := range badActs {
			got, code := impl.PrefixPut(l, 0, 24, act)
			wantNotPut(t, fmt.Sprint("act ", act), got, code, impl.TbForm)
		}
	}
	// An address of which only the first of more than 32 bits are wrong, at bits that would hide all behind.
	all := []impl.Prefix{{Bits: 0, Act: 4}, {Addr: 1 << 31, Bits: 1, Act: 5}}
	for _, addr := range badAddrs {
		wantRules(t, fmt.Sprint("without ", addr), impl.PrefixDrop(all, addr, 0), all)
		wantRules(t, fmt.Sprint("without ", addr), impl.PrefixDrop(all, addr, 1), all)
		wantNumber(t, fmt.Sprint("the act of ", addr), impl.PrefixFind(all, addr), 0)
	}
	for _, l := range noPrefixTables() {
		what := fmt.Sprintf("what is no table, %.80v", l)
		for _, r := range []impl.Prefix{l[0], l[len(l)-1], {Addr: 0x0a000000, Bits: 8}, {Bits: 33}} {
			got, code := impl.PrefixPut(l, r.Addr, r.Bits, 1)
			wantNotPut(t, what, got, code, impl.TbForm)
			wantNumber(t, what, impl.PrefixFind(l, r.Addr), 0)
			wantRules(t, what, impl.PrefixDrop(l, r.Addr, r.Bits), nil)
		}
	}
}

func TestPrefixFull(t *testing.T) {
	l, code := impl.PrefixPut(prefixesOf(31), 31<<8+7, 24, 32)
	wantPut(t, "the 32nd rule", l, code, prefixesOf(32))
	for _, r := range []impl.Prefix{{Bits: 0}, {Bits: 23}, {Addr: 32 << 8, Bits: 24}, {Addr: 5 << 8, Bits: 25}, {Addr: addrEnd - 1, Bits: 32}} {
		got, code := impl.PrefixPut(l, r.Addr, r.Bits, 1)
		wantNotPut(t, fmt.Sprint("one more, ", r), got, code, impl.TbFull)
	}
	for i, r := range l {
		other := slices.Clone(l)
		other[i].Act = 99
		got, code := impl.PrefixPut(l, r.Addr+200, 24, 99)
		wantPut(t, fmt.Sprint("what is there, ", r), got, code, other)
		wantNumber(t, "its act", impl.PrefixFind(got, r.Addr+3), 99)
		got, code = impl.PrefixPut(impl.PrefixDrop(l, r.Addr, 24), r.Addr, 30, 98)
		if code != impl.TbOk || len(got) != 32 || impl.PrefixFind(got, r.Addr+3) != 98 || impl.PrefixFind(got, r.Addr+4) != 0 {
			t.Errorf("in place of %v: %v, %d", r, got, code)
		}
	}
}

func noTernTables() [][]impl.Tern {
	list := [][]impl.Tern{
		{{Pri: 1, Act: 1}, {Pri: 2, Act: 1}}, {{Pri: 1, Act: 1}, {Pri: 1, Act: 1}}, {{Pri: 1, Act: 1}, {Pri: 1, Act: 2}},
		{{Mask: 2, Act: 1}, {Mask: 1, Act: 1}}, {{Mask: 3, Value: 2, Act: 1}, {Mask: 3, Value: 1, Act: 1}}, {{Mask: 3, Value: 2, Act: 1}, {Mask: 3, Value: 2, Act: 1}},
		{{Pri: 5, Mask: 3, Value: 0, Act: 1}, {Pri: 5, Mask: 2, Value: 2, Act: 1}}, {{Pri: 5, Mask: 1, Value: 1, Act: 1}, {Pri: 6, Mask: 2, Act: 1}},
		{{Value: 1, Mask: 0, Act: 1}}, {{Value: 1, Mask: 2, Act: 1}}, {{Value: 3, Mask: 1, Act: 1}}, {{Value: keyEnd - 1, Mask: keyEnd - 2, Act: 1}}, {{Act: 1, Pri: 4}, {Value: 255, Mask: 254, Act: 1}},
		ternsOf(33), ternsOf(200),
	}
	for _, n := range badKeys {
		list = append(list, []impl.Tern{{Value: n, Mask: n, Act: 1}}, []impl.Tern{{Mask: n, Act: 1}}, []impl.Tern{{Value: n, Mask: keyEnd - 1, Act: 1}}, []impl.Tern{{Pri: 3, Act: 1}, {Mask: n, Act: 1}})
	}
	for _, n := range badPris {
		list = append(list, []impl.Tern{{Pri: n, Act: 1}}, []impl.Tern{{Pri: n, Act: 1}, {Pri: 0, Act: 1}}, []impl.Tern{{Pri: 1000, Act: 1}, {Pri: n, Act: 1}})
	}
	for _, n := range badActs {
		list = append(list, []impl.Tern{{Mask: 1, Act: n}}, []impl.Tern{{Pri: 3, Act: 1}, {Mask: 1, Act: n}})
	}
	return list
}

func TestTernOrder(t *testing.T) {
	want := []impl.Tern{
		{Value: 5, Mask: 255, Pri: 1000, Act: 1}, {Value: 0, Mask: 0, Pri: 999, Act: 2}, {Value: 0, Mask: 1, Pri: 7, Act: 3}, {Value: 1, Mask: 1, Pri: 7, Act: 4},
		{Value: 0, Mask: 2, Pri: 7, Act: 5}, {Value: 0, Mask: keyEnd - 1, Pri: 7, Act: 6}, {Value: keyEnd - 1, Mask: keyEnd - 1, Pri: 7, Act: 7}, {Value: 0, Mask: 0, Pri: 0, Act: 99},
	}
	m := maker{state: 18}
	for range 200 {
		var l []impl.Tern
		for _, i := range shuffled(&m, len(want)) {
			r := want[i]
			// Bits of the value where the mask has none are made 0.
			l, _ = impl.TernPut(l, r.Value|m.below(keyEnd)&^r.Mask, r.Mask, r.Pri, r.Act)
		}
		wantRules(t, "put in another order", l, want)
	}
	for i, r := range want {
		junk := (keyEnd - 1) &^ r.Mask
		for _, value := range []int64{r.Value, r.Value | junk} {
			wantRules(t, fmt.Sprint("dropped ", r), impl.TernDrop(want, value, r.Mask, r.Pri), slices.Delete(slices.Clone(want), i, i+1))
			other := slices.Clone(want)
			other[i].Act = 50
			got, code := impl.TernPut(want, value, r.Mask, r.Pri, 50)
			wantPut(t, fmt.Sprint("again ", r), got, code, other)
		}
		for _, pri := range append([]int64{r.Pri - 1, r.Pri + 1}, badPris...) {
			wantRules(t, fmt.Sprint("without ", r, " of ", pri), impl.TernDrop(want, r.Value, r.Mask, pri), want)
		}
		for _, mask := range badKeys {
			wantRules(t, fmt.Sprint("without mask ", mask), impl.TernDrop(want, r.Value, mask, r.Pri), want)
		}
	}
	wantRules(t, "nothing dropped", impl.TernDrop(nil, 1, 1, 1), nil)
}

func shuffled(m *maker, size int) []int {
	out := make([]int, size)
	for i := range out {
		at := m.below(int64(i + 1))
		out[i] = out[at]
		out[at] = i
	}
	return out
}

func TestFirstTernWins(t *testing.T) {
	l := []impl.Tern{
		{Value: 0x0100, Mask: 0xff00, Pri: 9, Act: 1}, {Value: 1, Mask: 0x00ff, Pri: 5, Act: 2}, {Value: 0x0200, Mask: 0xff00, Pri: 5, Act: 3},
		{Value: 0, Mask: 1, Pri: 1, Act: 4}, {Value: keyEnd - 1, Mask: keyEnd - 1, Pri: 0, Act: 5},
	}
	for _, r := range [][2]int64{
		{0x0101, 1}, {0x01fe, 1}, {0x0201, 2}, {0xff01, 2}, {0x70000001, 2}, {0x0203, 3}, {0x0202, 3}, {0x0302, 4}, {0, 4}, {0x0303, 0}, {keyEnd - 1, 5}, {keyEnd - 3, 0}, {keyEnd - 2, 4},
	} {
		wantNumber(t, fmt.Sprintf("the act of %x", r[0]), impl.TernFind(l, r[0]), r[1])
	}
	all := []impl.Tern{{Act: 8}}
	for _, key := range []int64{0, 1, keyEnd - 1} {
		wantNumber(t, fmt.Sprint("the act of ", key), impl.TernFind(all, key), 8)
		wantNumber(t, "the act in no rules", impl.TernFind(nil, key), 0)
	}
	for _, key := range badKeys {
		wantNumber(t, fmt.Sprint("the act of ", key), impl.TernFind(all, key), 0)
		wantNumber(t, fmt.Sprint("the act of ", key), impl.TernFind(l, key), 0)
	}
}

func TestTwoRulesOfOnePri(t *testing.T) {
	for _, first := range []bool{true, false} {
		var l []impl.Tern
		for _, narrow := range []bool{first, !first} {
			if narrow {
				l, _ = impl.TernPut(l, 0x0501, 0xffff, 3, 10)
			} else {
				l, _ = impl.TernPut(l, 0x0001, 0x00ff, 3, 20)
			}
		}
		wantRules(t, "two of one Pri", l, []impl.Tern{{Value: 1, Mask: 255, Pri: 3, Act: 20}, {Value: 0x0501, Mask: 0xffff, Pri: 3, Act: 10}})
		wantNumber(t, "what both fit", impl.TernFind(l, 0x0501), 20)
		wantNumber(t, "without the first", impl.TernFind(impl.TernDrop(l, 1, 255, 3), 0x0501), 10)
	}
}

func TestTernForm(t *testing.T) {
	for _, l := range [][]impl.Tern{nil, ternsOf(1), ternsOf(31), ternsOf(32)} {
		for _, n := range badKeys {
			for _, mask := range []int64{0, 255, keyEnd - 1} {
				got, code := impl.TernPut(l, n, mask, 500, 1)
				wantNotPut(t, fmt.Sprintf("value %d, mask %d", n, mask), got, code, impl.TbForm)
			}
			got, code := impl.TernPut(l, 0, n, 500, 1)
			wantNotPut(t, fmt.Sprint("mask ", n), got, code, impl.TbForm)
		}
		for _, pri := range badPris {
			got, code := impl.TernPut(l, 0, 255, pri, 1)
			wantNotPut(t, fmt.Sprint("pri ", pri), got, code, impl.TbForm)
		}
		for _, act := range badActs {
			got, code := impl.TernPut(l, 0, 255, 500, act)
			wantNotPut(t, fmt.Sprint("act ", act), got, code, impl.TbForm)
		}
	}
	for _, l := range noTernTables() {
		what := fmt.Sprintf("what is no table, %.80v", l)
		for _, r := range []impl.Tern{l[0], l[len(l)-1], {Value: 1, Mask: 1, Pri: 8}} {
			got, code := impl.TernPut(l, 1, 1, 8, 1)
			wantNotPut(t, what, got, code, impl.TbForm)
			wantNumber(t, what, impl.TernFind(l, r.Value), 0)
			wantRules(t, what, impl.TernDrop(l, r.Value, r.Mask, r.Pri), nil)
		}
	}
	// TernDrop is told to make the value 0 where the mask is, and refuses no value.
	wantRules(t, "a value beyond its mask", impl.TernDrop(ternsOf(2), 1<<50+1, 255, 500), ternsOf(1))
}

func TestTernFull(t *testing.T) {
	l, code := impl.TernPut(ternsOf(31), 31+256, 255, 500, 32)
	wantPut(t, "the 32nd rule", l, code, ternsOf(32))
	for _, r := range []impl.Tern{{Pri: 1000}, {Pri: 0}, {Value: 32, Mask: 255, Pri: 500}, {Value: 3, Mask: 127, Pri: 500}, {Value: 3, Mask: 255, Pri: 501}} {
		got, code := impl.TernPut(l, r.Value, r.Mask, r.Pri, 1)
		wantNotPut(t, fmt.Sprint("one more, ", r), got, code, impl.TbFull)
	}
	for i, r := range l {
		other := slices.Clone(l)
		other[i].Act = 99
		got, code := impl.TernPut(l, r.Value, 255, 500, 99)
		wantPut(t, fmt.Sprint("what is there, ", r), got, code, other)
		got, code = impl.TernPut(impl.TernDrop(l, r.Value, 255, 500), r.Value, 255, 499, 98)
		if code != impl.TbOk || len(got) != 32 || got[31].Act != 98 || impl.TernFind(got, r.Value) != 98 {
			t.Errorf("in place of %v: %v, %d", r, got, code)
		}
	}
}

// Rules put one by one, now and then dropped, against a plain list of them that is gone through whole for each answer.
func TestTablesAgainstPlainLists(t *testing.T) {
	m := maker{state: 19}
	for range 60 {
		var exacts, plainExacts []impl.Exact
		var prefixes, plainPrefixes []impl.Prefix
		var terns, plainTerns []impl.Tern
		for range 80 {
			act := 1 + m.below(99)
			e := impl.Exact{Key: m.below(50), Act: act}
			p := impl.Prefix{Addr: m.below(16) << 28, Bits: m.below(6), Act: act}
			p.Addr -= behind(p.Addr, p.Bits)
			n := impl.Tern{Mask: m.below(16), Pri: m.below(4), Act: act}
			n.Value = m.below(16) & n.Mask
			if m.below(5) == 0 {
				exacts, plainExacts = impl.ExactDrop(exacts, e.Key), without(plainExacts, e, compareExacts)
				prefixes, plainPrefixes = impl.PrefixDrop(prefixes, p.Addr, p.Bits), without(plainPrefixes, p, comparePrefixes)
				terns, plainTerns = impl.TernDrop(terns, n.Value, n.Mask, n.Pri), without(plainTerns, n, compareTerns)
			} else {
				exacts, plainExacts = afterPut(exacts, plainExacts, e, compareExacts, func() ([]impl.Exact, int64) { return impl.ExactPut(exacts, e.Key, act) }, t)
				prefixes, plainPrefixes = afterPut(prefixes, plainPrefixes, p, comparePrefixes, func() ([]impl.Prefix, int64) { return impl.PrefixPut(prefixes, p.Addr, p.Bits, act) }, t)
				terns, plainTerns = afterPut(terns, plainTerns, n, compareTerns, func() ([]impl.Tern, int64) { return impl.TernPut(terns, n.Value, n.Mask, n.Pri, act) }, t)
			}
			wantRules(t, "exact rules", exacts, plainExacts)
			wantRules(t, "rules by prefix", prefixes, plainPrefixes)
			wantRules(t, "rules by mask", terns, plainTerns)
			for key := range int64(20) {
				wantNumber(t, fmt.Sprintf("%d in %v", key, exacts), impl.ExactFind(exacts, key), plainExact(plainExacts, key))
				wantNumber(t, fmt.Sprintf("%d in %v", key<<27, prefixes), impl.PrefixFind(prefixes, key<<27), plainPrefix(plainPrefixes, key<<27))
				wantNumber(t, fmt.Sprintf("%d in %v", key, terns), impl.TernFind(terns, key), plainTern(plainTerns, key))
			}
		}
	}
}

func compareExacts(a impl.Exact, b impl.Exact) int {
	return cmp.Compare(a.Key, b.Key)
}

func comparePrefixes(a impl.Prefix, b impl.Prefix) int {
	return cmp.Or(cmp.Compare(a.Bits, b.Bits), cmp.Compare(a.Addr, b.Addr))
}

func compareTerns(a impl.Tern, b impl.Tern) int {
	return cmp.Or(cmp.Compare(b.Pri, a.Pri), cmp.Compare(a.Mask, b.Mask), cmp.Compare(a.Value, b.Value))
}

func without[R any](l []R, r R, compare func(R, R) int) []R {
	return slices.DeleteFunc(slices.Clone(l), func(x R) bool { return compare(x, r) == 0 })
}

func afterPut[R comparable](l []R, plain []R, r R, compare func(R, R) int, put func() ([]R, int64), t *testing.T) ([]R, []R) {
	t.Helper()
	got, code := put()
	rest := without(plain, r, compare)
	if len(rest) == impl.MaxRules {
		wantNotPut(t, fmt.Sprint("one more, ", r), got, code, impl.TbFull)
		return l, plain
	}
	rest = append(rest, r)
	slices.SortFunc(rest, compare)
	wantPut(t, fmt.Sprint("put ", r), got, code, rest)
	return got, rest
}

func plainExact(l []impl.Exact, key int64) int64 {
	for _, r := range l {
		if r.Key == key {
			return r.Act
		}
	}
	return 0
}

func plainPrefix(l []impl.Prefix, addr int64) int64 {
	act, most := int64(0), int64(-1)
	for _, r := range l {
		if addr-behind(addr, r.Bits) == r.Addr && r.Bits > most {
			act, most = r.Act, r.Bits
		}
	}
	return act
}

func plainTern(l []impl.Tern, key int64) int64 {
	for _, r := range l {
		if (key^r.Value)&r.Mask == 0 {
			return r.Act
		}
	}
	return 0
}

// wantStays: whether a call leaves a table and the spare room behind it as they are, and answers with memory of its own.
func wantStays[R comparable](t *testing.T, what string, room []R, call func(l []R) []R) {
	t.Helper()
	was := slices.Clone(room)
	answer := call(room[:len(room)-2])
	if !slices.Equal(room, was) {
		t.Errorf("%s: the list is %v now", what, room)
	}
	answer = answer[:cap(answer)]
	var zero R
	for i := range answer {
		answer[i] = zero
	}
	if !slices.Equal(room, was) {
		t.Errorf("%s: the answer is part of the list", what)
	}
}

func TestTablesStay(t *testing.T) {
	for _, key := range []int64{0, 5, 20, 35, 1000} {
		wantStays(t, "ExactPut", exactsOf(6), func(l []impl.Exact) []impl.Exact { out, _ := impl.ExactPut(l, key, 9); return out })
		wantStays(t, "ExactDrop", exactsOf(6), func(l []impl.Exact) []impl.Exact { return impl.ExactDrop(l, key) })
		wantStays(t, "ExactFind", exactsOf(6), func(l []impl.Exact) []impl.Exact { impl.ExactFind(l, key); return nil })
	}
	for _, addr := range []int64{0, 256, 1023, 5 << 8, addrEnd} {
		for _, bits := range []int64{0, 24, 32, 33} {
			wantStays(t, "PrefixPut", prefixesOf(6), func(l []impl.Prefix) []impl.Prefix { out, _ := impl.PrefixPut(l, addr, bits, 9); return out })
			wantStays(t, "PrefixDrop", prefixesOf(6), func(l []impl.Prefix) []impl.Prefix { return impl.PrefixDrop(l, addr, bits) })
			wantStays(t, "PrefixFind", prefixesOf(6), func(l []impl.Prefix) []impl.Prefix { impl.PrefixFind(l, addr); return nil })
		}
	}
	for _, value := range []int64{0, 2, 5, 255} {
		for _, pri := range []int64{0, 500, 1000} {
			wantStays(t, "TernPut", ternsOf(6), func(l []impl.Tern) []impl.Tern { out, _ := impl.TernPut(l, value, 255, pri, 9); return out })
			wantStays(t, "TernDrop", ternsOf(6), func(l []impl.Tern) []impl.Tern { return impl.TernDrop(l, value, 255, pri) })
			wantStays(t, "TernFind", ternsOf(6), func(l []impl.Tern) []impl.Tern { impl.TernFind(l, value); return nil })
		}
	}
}

// P6: unlike rules may be put in either order, and each is found by what no rule ahead of it fits.
func TestEitherOrder(t *testing.T) {
	m := maker{state: 20}
	for range 2000 {
		a := impl.Tern{Mask: m.below(keyEnd), Pri: m.below(3), Act: 1 + m.below(99)}
		b := impl.Tern{Mask: m.below(4), Pri: m.below(3), Act: 1 + m.below(99)}
		a.Value, b.Value = m.below(keyEnd)&a.Mask, m.below(keyEnd)&b.Mask
		if compareTerns(a, b) == 0 {
			continue
		}
		one, _ := impl.TernPut(nil, a.Value, a.Mask, a.Pri, a.Act)
		one, _ = impl.TernPut(one, b.Value, b.Mask, b.Pri, b.Act)
		two, _ := impl.TernPut(nil, b.Value, b.Mask, b.Pri, b.Act)
		two, _ = impl.TernPut(two, a.Value, a.Mask, a.Pri, a.Act)
		wantRules(t, "by mask, in either order", one, two)
		wantNumber(t, "rules", int64(len(one)), 2)
		wantNumber(t, "the act of the first one", impl.TernFind(one, one[0].Value), one[0].Act)

		p := impl.Prefix{Addr: m.below(addrEnd), Bits: m.below(33), Act: 1 + m.below(99)}
		q := impl.Prefix{Addr: m.below(addrEnd), Bits: (p.Bits + 1 + m.below(32)) % 33, Act: 1 + m.below(99)}
		three, _ := impl.PrefixPut(nil, p.Addr, p.Bits, p.Act)
		three, _ = impl.PrefixPut(three, q.Addr, q.Bits, q.Act)
		four, _ := impl.PrefixPut(nil, q.Addr, q.Bits, q.Act)
		four, _ = impl.PrefixPut(four, p.Addr, p.Bits, p.Act)
		wantRules(t, "by prefix, in either order", three, four)
		wantNumber(t, "the act of the longer one", impl.PrefixFind(three, three[1].Addr), three[1].Act)
	}
}

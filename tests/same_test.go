package tests

import (
	"fmt"
	"reflect"
	"slices"
	"strings"
	"testing"
	"unsafe"

	"loop.example/g00675/impl"
)

// A span is memory that a text or a list has, with the room behind it.
type span struct {
	from uintptr
	end  uintptr
	what string
}

// spansOf gives the memory of all texts and lists in a thing. Texts of one byte lie in one place for all.
func spansOf(v reflect.Value, path string) []span {
	var out []span
	switch v.Kind() {
	case reflect.String:
		if v.Len() > 1 {
			from := uintptr(unsafe.Pointer(unsafe.StringData(v.String())))
			out = append(out, span{from, from + uintptr(v.Len()), path})
		}
	case reflect.Slice:
		if v.Cap() > 0 {
			out = append(out, span{v.Pointer(), v.Pointer() + uintptr(v.Cap())*v.Type().Elem().Size(), path})
		}
		for i := range v.Len() {
			out = append(out, spansOf(v.Index(i), fmt.Sprintf("%s[%d]", path, i))...)
		}
	case reflect.Struct:
		for i := range v.NumField() {
			out = append(out, spansOf(v.Field(i), path+"."+v.Type().Field(i).Name)...)
		}
	}
	return out
}

func spansOfAll(l []reflect.Value, what string) []span {
	var out []span
	for i, v := range l {
		out = append(out, spansOf(v, fmt.Sprint(what, " ", i))...)
	}
	return out
}

func wantNoneShared(t *testing.T, name string, all []span) {
	t.Helper()
	slices.SortFunc(all, func(a span, b span) int { return int(int64(a.from) - int64(b.from)) })
	for i := 1; i < len(all); i++ {
		if all[i].from < all[i-1].end {
			t.Fatalf("%s: %s shares memory with %s", name, all[i-1].what, all[i].what)
		}
	}
}

// mark writes all over a thing: what stands in the room behind lists, and in lists that are spoilt.
func mark(v reflect.Value) {
	switch v.Kind() {
	case reflect.String:
		v.SetString("marked")
	case reflect.Int64:
		v.SetInt(-9)
	case reflect.Bool:
		v.SetBool(true)
	case reflect.Struct:
		for i := range v.NumField() {
			mark(v.Field(i))
		}
	}
}

// withRoom gives the same in other memory, with marked room behind each list.
func withRoom(v reflect.Value) reflect.Value {
	out := reflect.New(v.Type()).Elem()
	out.Set(v)
	switch v.Kind() {
	case reflect.String:
		out.SetString(strings.Clone(v.String()))
	case reflect.Slice:
		list := reflect.MakeSlice(v.Type(), v.Len()+2, v.Len()+2)
		for i := range v.Len() {
			list.Index(i).Set(withRoom(v.Index(i)))
		}
		mark(list.Index(v.Len()))
		mark(list.Index(v.Len() + 1))
		out.Set(list.Slice(0, v.Len()))
	case reflect.Struct:
		for i := range v.NumField() {
			out.Field(i).Set(withRoom(v.Field(i)))
		}
	}
	return out
}

func allWithRoom(l []reflect.Value) []reflect.Value {
	var out []reflect.Value
	for _, v := range l {
		out = append(out, withRoom(v))
	}
	return out
}

// sameInRoom: whether both tell the same, and the same stands behind their lists.
func sameInRoom(a reflect.Value, b reflect.Value) bool {
	switch a.Kind() {
	case reflect.Slice:
		if a.Len() != b.Len() || a.Cap() != b.Cap() {
			return false
		}
		for i := range a.Cap() {
			if !sameInRoom(a.Slice(0, a.Cap()).Index(i), b.Slice(0, b.Cap()).Index(i)) {
				return false
			}
		}
		return true
	case reflect.Struct:
		for i := range a.NumField() {
			if !sameInRoom(a.Field(i), b.Field(i)) {
				return false
			}
		}
		return true
	}
	return a.Equal(b)
}

// spoilLists writes all over the lists of a thing, and over the room behind them.
func spoilLists(v reflect.Value) {
	switch v.Kind() {
	case reflect.Slice:
		for i := range v.Cap() {
			item := v.Slice(0, v.Cap()).Index(i)
			spoilLists(item)
			mark(item)
		}
	case reflect.Struct:
		for i := range v.NumField() {
			spoilLists(v.Field(i))
		}
	}
}

func sameAll(a []reflect.Value, b []reflect.Value) bool {
	return slices.EqualFunc(a, b, sameInRoom)
}

// wantSame: a function answers the same to the same arguments, in new memory, and writes nothing into them.
func wantSame(t *testing.T, name string, f any, args ...any) {
	t.Helper()
	var plain []reflect.Value
	for _, arg := range args {
		plain = append(plain, reflect.ValueOf(arg))
	}
	given, kept := allWithRoom(plain), allWithRoom(plain)
	answers := reflect.ValueOf(f).Call(given)
	want := allWithRoom(answers)
	wantNoneShared(t, name, append(spansOfAll(answers, "answer"), spansOfAll(given, "argument")...))
	for _, a := range answers {
		spoilLists(a)
	}
	if !sameAll(given, kept) {
		t.Fatalf("%s writes into an argument, or behind it: %s", name, brief(args))
	}
	for _, l := range [][]reflect.Value{given, kept} {
		if again := allWithRoom(reflect.ValueOf(f).Call(l)); !sameAll(again, want) {
			t.Fatalf("%s of %s answers otherwise the second time", name, brief(args))
		}
	}
}

func pick[T any](m *maker, lists ...[]T) T {
	l := lists[m.below(int64(len(lists)))]
	return l[m.below(int64(len(l)))]
}

// Promise 15, of all chapters: of bytes, frames, datagrams and ports.
func TestSameAnswersOfBytesToPorts(t *testing.T) {
	m := maker{state: 161}
	frames, noFrames, ips, noIps := goodFrames(), badFrames(), goodIps(), badIps()
	for range 200 {
		s := m.text(int(m.below(60)))
		wantSame(t, "BytesOf", impl.BytesOf, m.below(1<<40), m.below(9))
		wantSame(t, "NumAt", impl.NumAt, s, m.below(60), m.below(9))
		wantSame(t, "SumOf", impl.SumOf, s)
		wantSame(t, "SumFix", impl.SumFix, m.below(65537), m.below(65537), m.below(65537))
		wantSame(t, "HexOf", impl.HexOf, s)
		wantSame(t, "ReadHex", impl.ReadHex, fmt.Sprintf("%x", s))
		f := pick(&m, frames, noFrames)
		wantSame(t, "FrameOk", impl.FrameOk, f)
		wantSame(t, "FrameBytes", impl.FrameBytes, f)
		wantSame(t, "ReadFrame", impl.ReadFrame, impl.FrameBytes(f))
		wantSame(t, "Tagged", impl.Tagged, f, m.below(65537))
		wantSame(t, "Untagged", impl.Untagged, f)
		wantSame(t, "MacText", impl.MacText, m.below(keyEnd+1))
		wantSame(t, "ReadMac", impl.ReadMac, impl.MacText(m.below(keyEnd)))
		p := pick(&m, ips, noIps)
		wantSame(t, "IpOk", impl.IpOk, p)
		wantSame(t, "IpBytes", impl.IpBytes, p)
		wantSame(t, "ReadIp", impl.ReadIp, impl.IpBytes(p))
		wantSame(t, "Hopped", impl.Hopped, impl.IpBytes(p))
		wantSame(t, "AddrText", impl.AddrText, m.below(addrEnd+1))
		wantSame(t, "ReadAddr", impl.ReadAddr, impl.AddrText(m.below(addrEnd)))
		u := impl.Udp{From: m.below(65536), To: m.below(65536), Sum: m.below(2) > 0, Data: s}
		wantSame(t, "UdpBytes", impl.UdpBytes, p.Src, p.Dst, u)
		wantSame(t, "ReadUdp", impl.ReadUdp, int64(hereAddr), int64(thereAddr), impl.UdpBytes(hereAddr, thereAddr, u))
	}
}

// Promise 15, of tunnels and tables.
func TestSameAnswersOfTunnelsAndTables(t *testing.T) {
	m := maker{state: 162}
	noExacts, noPrefixes, noTerns := noExactTables(), noPrefixTables(), noTernTables()
	cases, gres, labels := optCases(), goodGres(), stacks()
	for range 200 {
		s := m.text(int(m.below(60)))
		opts, g, l := pick(&m, cases).opts, pick(&m, gres), pick(&m, labels)
		wantSame(t, "VxlanBytes", impl.VxlanBytes, m.below(netEnd+1), s)
		wantSame(t, "ReadVxlan", impl.ReadVxlan, impl.VxlanBytes(m.below(netEnd), s))
		wantSame(t, "GeneveBytes", impl.GeneveBytes, m.below(netEnd), opts, s)
		wantSame(t, "ReadGeneve", impl.ReadGeneve, impl.GeneveBytes(m.below(netEnd), opts, s))
		wantSame(t, "GreBytes", impl.GreBytes, g)
		wantSame(t, "ReadGre", impl.ReadGre, impl.GreBytes(g))
		wantSame(t, "MplsBytes", impl.MplsBytes, l, s)
		wantSame(t, "ReadMpls", impl.ReadMpls, impl.MplsBytes(l, s))
		wantSame(t, "Pushed", impl.Pushed, l, impl.Label{Label: m.below(labelEnd), Tc: m.below(9), Ttl: m.below(256)})
		wantSame(t, "Popped", impl.Popped, l)
		many := int(m.below(33))
		key, act, bits := m.below(400), m.below(101), m.below(34)
		exacts := pick(&m, [][]impl.Exact{exactsOf(many)}, noExacts)
		wantSame(t, "ExactPut", impl.ExactPut, exacts, key, act)
		wantSame(t, "ExactFind", impl.ExactFind, exacts, key)
		wantSame(t, "ExactDrop", impl.ExactDrop, exacts, key)
		prefixes := pick(&m, [][]impl.Prefix{prefixesOf(many)}, noPrefixes)
		wantSame(t, "PrefixPut", impl.PrefixPut, prefixes, key, bits, act)
		wantSame(t, "PrefixFind", impl.PrefixFind, prefixes, key)
		wantSame(t, "PrefixDrop", impl.PrefixDrop, prefixes, key, bits)
		terns := pick(&m, [][]impl.Tern{ternsOf(many)}, noTerns)
		wantSame(t, "TernPut", impl.TernPut, terns, key&255, int64(255), m.below(9), act)
		wantSame(t, "TernFind", impl.TernFind, terns, key)
		wantSame(t, "TernDrop", impl.TernDrop, terns, key&255, int64(255), m.below(9))
	}
}

// Promise 15, of pieces and buffers.
func TestSameAnswersOfPiecesAndBuffers(t *testing.T) {
	m := maker{state: 163}
	good, bad, bufs, noBufs, cuts := goodPieces(), badPieces(), goodBufs(), badBufs(), cutCases()
	for range 150 {
		s := m.text(int(m.below(60)))
		p := pick(&m, cuts).p
		wantSame(t, "CopiedOpts", impl.CopiedOpts, p.Opts)
		wantSame(t, "Fragments", impl.Fragments, p, 68+m.below(2000))
		parts, _ := impl.Fragments(p, 68+m.below(200))
		wantSame(t, "Tiles", impl.Tiles, parts)
		wantSame(t, "Joined", impl.Joined, parts)
		l := pick(&m, good, bad)
		wantSame(t, "PiecesOk", impl.PiecesOk, l)
		wantSame(t, "Filled", impl.Filled, l, m.below(2000), s)
		wantSame(t, "Holes", impl.Holes, l, m.below(65516))
		b := pick(&m, bufs, noBufs)
		wantSame(t, "BufOk", impl.BufOk, b)
		wantSame(t, "Expired", impl.Expired, b, m.below(2000))
		wantSame(t, "Offer", impl.Offer, b, p, m.below(2000))
		var come impl.Buf
		for i, part := range parts[:min(len(parts), 20)] {
			wantSame(t, "Offer", impl.Offer, come, part, int64(i))
			come, _, _ = impl.Offer(come, part, int64(i))
		}
	}
}

// Promise 15, of gateways, roads, counts and the script.
func TestSameAnswersOfGateways(t *testing.T) {
	m := teacher{player: player{maker: maker{state: 164}}}
	ends, noEnds, noCmds := goodEnds(), badEnds(), badCmds()
	for range 60 {
		e := pick(&m.maker, ends, noEnds)
		wantSame(t, "EndOk", impl.EndOk, e)
		wantSame(t, "MirrorOf", impl.MirrorOf, e)
		c := pick(&m.maker, []impl.Cmd{someCmd(&m.maker)}, noCmds)
		wantSame(t, "CmdOk", impl.CmdOk, c)
		wantSame(t, "CmdText", impl.CmdText, c)
		wantSame(t, "ReadCmd", impl.ReadCmd, impl.CmdText(c))
		list := m.list(int(m.one(60, 80, 81)))
		wantSame(t, "Play", impl.Play, list)
		wantSame(t, "Sent", impl.Sent, list)
		wantSame(t, "Delivered", impl.Delivered, list)
		wantSame(t, "Carried", impl.Carried, list, mirrors(list), []int64{m.below(99), m.below(99), -m.below(99)})
		wantSame(t, "CountsOf", impl.CountsOf, list)
		wantSame(t, "UsesOf", impl.UsesOf, list)
		wantSame(t, "BytesSent", impl.BytesSent, list)
		wantSame(t, "RunScript", impl.RunScript, linesOf(m.lines(int(m.one(20, 40, 41)))))
	}
}

// Promise 15, of disks and journals.
func TestSameAnswersOfDisks(t *testing.T) {
	m := journalPlayer{diskPlayer{maker{state: 165}}}
	for range 60 {
		d := m.disk(int(m.below(20)), int(m.below(20)))
		wantSame(t, "DiskOk", impl.DiskOk, d)
		wantSame(t, "Do", impl.Do, d, m.op())
		wantSame(t, "Sync", impl.Sync, d)
		wantSame(t, "Crash", impl.Crash, d, m.keep(len(d.Ops)), m.below(9)-1)
		wantSame(t, "ReadFile", impl.ReadFile, d, m.name())
		wantSame(t, "Replace", impl.Replace, d, m.name(), m.text(10))
		s := m.text(2 + int(m.below(30)))
		wantSame(t, "FrameOf", impl.FrameOf, s)
		wantSame(t, "TakeFrames", impl.TakeFrames, impl.FrameOf(s)+impl.FrameOf(s)+s)
		acts := []impl.Act{{Kind: impl.AcNew, Power: -1}}
		for range m.below(20) {
			acts = append(acts, m.act(len(acts)))
		}
		wantSame(t, "StorePlay", impl.StorePlay, d, acts)
		stored, _ := impl.StorePlay(impl.Disk{}, acts)
		wantSame(t, "StoreDo", impl.StoreDo, stored, m.act(len(stored.Ops)))
		wantSame(t, "StoreView", impl.StoreView, stored)
		wantSame(t, "Recovered", impl.Recovered, stored)
	}
}

package tests

import (
	"fmt"
	"slices"
	"strings"
	"testing"

	"loop.example/g00675/impl"
)

const macEnd = 1 << 48

func goodFrames() []impl.Frame {
	var list []impl.Frame
	m := maker{state: 3}
	for _, tags := range [][]int64{nil, {}, {0}, {33024}, {65535}, {0, 0}, {1, 2}, {33024, 33024}, {65535, 0}, {2048, 1536}} {
		for _, kind := range []int64{1536, 1537, 2048, 33023, 33025, 65534, 65535} {
			for _, size := range []int{0, 1, 2, 4, 46, 1499, 1500} {
				list = append(list, impl.Frame{Dst: m.below(macEnd), Src: m.below(macEnd), Tags: tags, Type: kind, Data: m.text(size)})
			}
		}
	}
	for _, mac := range []int64{0, 1, macEnd / 2, macEnd - 2, macEnd - 1} {
		list = append(list, impl.Frame{Dst: mac, Type: 2048}, impl.Frame{Src: mac, Type: 2048}, impl.Frame{Dst: mac, Src: mac, Tags: []int64{7}, Type: 2048})
	}
	// Data that looks like one more tag is data still.
	return append(list, impl.Frame{Tags: []int64{1, 2}, Type: 2048, Data: "\x81\x00\x00\x03\x08\x00"}, impl.Frame{Type: 2048, Data: "\x81\x00"})
}

func badFrames() []impl.Frame {
	var list []impl.Frame
	for _, mac := range append([]int64{macEnd, macEnd + 1}, outsiders...) {
		list = append(list, impl.Frame{Dst: mac, Type: 2048}, impl.Frame{Src: mac, Type: 2048}, impl.Frame{Dst: mac, Tags: []int64{5}, Type: 2048})
	}
	for _, tag := range append([]int64{65536, 65537, 1 << 32}, outsiders...) {
		list = append(list, impl.Frame{Tags: []int64{tag}, Type: 2048}, impl.Frame{Tags: []int64{tag, 1}, Type: 2048}, impl.Frame{Tags: []int64{1, tag}, Type: 2048})
	}
	for _, kind := range append([]int64{0, 1, 1500, 1535, 33024, 65536, 1 << 32}, outsiders...) {
		list = append(list, impl.Frame{Type: kind}, impl.Frame{Tags: []int64{5}, Type: kind, Data: "hi"})
	}
	for _, size := range []int{1501, 1502, 3000, 65536} {
		list = append(list, impl.Frame{Type: 2048, Data: strings.Repeat("x", size)}, impl.Frame{Tags: []int64{1}, Type: 2048, Data: strings.Repeat("x", size)})
	}
	return append(list, impl.Frame{}, impl.Frame{Tags: []int64{1, 2, 3}, Type: 2048}, impl.Frame{Tags: make([]int64, 100), Type: 2048})
}

func TestFrameComesBack(t *testing.T) {
	for _, f := range goodFrames() {
		if !impl.FrameOk(f) {
			t.Fatalf("FrameOk(%v) is false", f)
		}
		s := impl.FrameBytes(f)
		wantNumber(t, "bytes of a frame", int64(len(s)), int64(14+4*len(f.Tags)+len(f.Data)))
		back, ok := impl.ReadFrame(s)
		if !ok || !sameFrame(back, f) {
			t.Errorf("%v came back as %v, %v", f, back, ok)
		}
	}
}

func TestFrameBytes(t *testing.T) {
	for _, r := range []struct {
		f    impl.Frame
		want string
	}{
		{impl.Frame{Type: 1536}, "000000000000" + "000000000000" + "0600"},
		{impl.Frame{Dst: macEnd - 1, Src: 1, Type: 65535, Data: "\xab"}, "ffffffffffff" + "000000000001" + "ffff" + "ab"},
		{impl.Frame{Dst: 0x010203040506, Src: 0x0708090a0b0c, Tags: []int64{100}, Type: 2048, Data: "hi"}, "010203040506" + "0708090a0b0c" + "81000064" + "0800" + "6869"},
		{impl.Frame{Dst: 2, Src: 3, Tags: []int64{65535, 33024}, Type: 0x86dd}, "000000000002" + "000000000003" + "8100ffff" + "81008100" + "86dd"},
	} {
		wantText(t, "bytes of a frame", fmt.Sprintf("%x", impl.FrameBytes(r.f)), r.want)
	}
}

func TestWrongFrames(t *testing.T) {
	for _, f := range badFrames() {
		what := fmt.Sprintf("frame of %d, %d, %v, %d, %d bytes", f.Dst, f.Src, f.Tags, f.Type, len(f.Data))
		if impl.FrameOk(f) {
			t.Errorf("%s: FrameOk", what)
		}
		wantText(t, what, impl.FrameBytes(f), "")
		if g, ok := impl.Tagged(f, 1); ok || !sameFrame(g, impl.Frame{}) {
			t.Errorf("%s: Tagged %v, %v", what, g, ok)
		}
		if g, tag, ok := impl.Untagged(f); ok || tag != 0 || !sameFrame(g, impl.Frame{}) {
			t.Errorf("%s: Untagged %v, %d, %v", what, g, tag, ok)
		}
	}
}

func TestReadFrameWrong(t *testing.T) {
	macs := strings.Repeat("\x11", 12)
	tag := "\x81\x00\x00\x05"
	wrong := []string{
		macs + "\x05\xff", macs + "\x00\x00", macs + "\x05\xffhello",
		macs + tag + "\x05\xff", macs + tag + tag + "\x00\x04",
		macs + "\x81\x00", macs + tag + "\x81\x00", macs + tag + tag + "\x81\x00",
		macs + tag + tag + tag + "\x08\x00", macs + tag + tag + tag + tag + "\x08\x00",
		macs + "\x08\x00" + strings.Repeat("x", 1501), macs + tag + "\x08\x00" + strings.Repeat("x", 1501),
		macs + tag + tag + "\x08\x00" + strings.Repeat("x", 1501), strings.Repeat("\xff", 100000),
	}
	for _, tags := range []string{"", tag, tag + tag} {
		whole := macs + tags + "\x08\x00"
		for size := range len(whole) {
			wrong = append(wrong, whole[:size])
		}
		if _, ok := impl.ReadFrame(whole); !ok {
			t.Errorf("%q is not read", whole)
		}
	}
	for _, s := range wrong {
		if f, ok := impl.ReadFrame(s); ok || !sameFrame(f, impl.Frame{}) {
			t.Errorf("ReadFrame(%.40q) of %d bytes: %v, %v", s, len(s), f, ok)
		}
	}
}

func TestWhatIsReadIsWrittenSo(t *testing.T) {
	m := maker{state: 4}
	read := 0
	for range 3000 {
		s := m.text(12)
		for range m.below(5) {
			s += "\x81\x00" + m.text(2)
		}
		s += m.text(int(m.below(8)))
		f, ok := impl.ReadFrame(s)
		if !ok {
			continue
		}
		read++
		if !impl.FrameOk(f) || impl.FrameBytes(f) != s {
			t.Errorf("%q is read as %v", s, f)
		}
	}
	if read < 500 {
		t.Errorf("only %d were read", read)
	}
}

func TestTaggedAndUntagged(t *testing.T) {
	for _, f := range goodFrames() {
		for _, tag := range []int64{0, 1, 4095, 33024, 65535} {
			g, ok := impl.Tagged(f, tag)
			if len(f.Tags) == 2 {
				if ok || !sameFrame(g, impl.Frame{}) {
					t.Errorf("%v has a third tag: %v", f, g)
				}
				continue
			}
			want := f
			want.Tags = append([]int64{tag}, f.Tags...)
			if !ok || !sameFrame(g, want) {
				t.Fatalf("Tagged(%v, %d): %v, %v", f, tag, g, ok)
			}
			back, first, ok := impl.Untagged(g)
			if !ok || first != tag || !sameFrame(back, f) {
				t.Errorf("Untagged(%v): %v, %d, %v", g, back, first, ok)
			}
		}
	}
}

func TestTagThatMayNotBe(t *testing.T) {
	for _, tags := range [][]int64{nil, {5}, {5, 6}} {
		for _, tag := range append([]int64{65536, 65537, 1 << 32}, outsiders...) {
			g, ok := impl.Tagged(impl.Frame{Dst: 1, Src: 2, Tags: tags, Type: 2048, Data: "hi"}, tag)
			if ok || !sameFrame(g, impl.Frame{}) {
				t.Errorf("Tagged with %d: %v, %v", tag, g, ok)
			}
		}
	}
}

func TestNoTagToTake(t *testing.T) {
	for _, tags := range [][]int64{nil, {}} {
		g, tag, ok := impl.Untagged(impl.Frame{Dst: 1, Src: 2, Tags: tags, Type: 2048, Data: "hi"})
		if ok || tag != 0 || !sameFrame(g, impl.Frame{}) {
			t.Errorf("Untagged: %v, %d, %v", g, tag, ok)
		}
	}
}

func TestTagsAreNewMemory(t *testing.T) {
	for size := range 3 {
		room := []int64{11, 12, 13, 14, 15}
		f := impl.Frame{Dst: 1, Src: 2, Tags: room[:size], Type: 2048, Data: "hi"}
		g, _ := impl.Tagged(f, 9)
		h, _, _ := impl.Untagged(f)
		impl.FrameOk(f)
		impl.FrameBytes(f)
		for _, answer := range []impl.Frame{g, h} {
			all := answer.Tags[:cap(answer.Tags)]
			for i := range all {
				all[i] = 99
			}
		}
		if !slices.Equal(room, []int64{11, 12, 13, 14, 15}) {
			t.Errorf("with %d tags the argument became %v", size, room)
		}
	}
}

func TestMacComesBack(t *testing.T) {
	m := maker{state: 5}
	list := []int64{0, 1, 255, 256, 0x0102030405ff, 0xa0b0c0d0e0f0, macEnd / 2, macEnd - 2, macEnd - 1}
	for range 300 {
		list = append(list, m.below(macEnd))
	}
	for _, n := range list {
		text := impl.MacText(n)
		plain := fmt.Sprintf("%012x", n)
		wantText(t, "MacText", text, strings.Join([]string{plain[:2], plain[2:4], plain[4:6], plain[6:8], plain[8:10], plain[10:]}, ":"))
		back, ok := impl.ReadMac(text)
		if !ok || back != n {
			t.Errorf("%d came back as %d, %v", n, back, ok)
		}
	}
}

func TestMacTextWrong(t *testing.T) {
	for _, n := range append([]int64{macEnd, macEnd + 1, 1 << 56}, outsiders...) {
		wantText(t, fmt.Sprintf("MacText(%d)", n), impl.MacText(n), "")
	}
}

func TestReadMacByteByByte(t *testing.T) {
	const text = "01:23:45:67:89:ab"
	for at := range len(text) {
		allowed := "0123456789abcdef"
		if at%3 == 2 {
			allowed = ":"
		}
		for c := range 256 {
			one := string([]byte{byte(c)})
			s := text[:at] + one + text[at+1:]
			n, ok := impl.ReadMac(s)
			if ok != strings.Contains(allowed, one) || !ok && n != 0 || ok && impl.MacText(n) != s {
				t.Errorf("ReadMac(%q): %d, %v", s, n, ok)
			}
		}
	}
}

func TestReadMacWrong(t *testing.T) {
	const text = "01:23:45:67:89:ab"
	list := []string{text + ":", text + "0", text + ":cd", " " + text, text + " ", text + "\n", "0123456789ab", "01-23-45-67-89-ab", "1:23:45:67:89:ab", "01:23:45:67:89:AB", "0123:45:67:89:ab:", ":01:23:45:67:89:a", strings.Repeat(":", 17), strings.Repeat("0", 17)}
	for size := range len(text) {
		list = append(list, text[:size])
	}
	for _, s := range list {
		if n, ok := impl.ReadMac(s); ok || n != 0 {
			t.Errorf("ReadMac(%q): %d, %v", s, n, ok)
		}
	}
}

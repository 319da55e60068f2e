package impl

import "strings"

const MaxData = 1500

const (
	macWidth = 6
	macLimit = 1 << 48
	maxTags  = 2
	minType  = 1536
	maxType  = 65535

	// The type that says that a tag follows; so no frame may have it as its own.
	tagType = 33024

	// Six times two digits, and five colons.
	macTextSize = 17
)

type Frame struct {
	Dst  int64
	Src  int64
	Tags []int64
	Type int64
	Data string
}

func isMac(n int64) bool {
	return 0 <= n && n < macLimit
}

func isType(n int64) bool {
	return minType <= n && n <= maxType && n != tagType
}

func areTags(tags []int64) bool {
	if len(tags) > maxTags {
		return false
	}
	for _, tag := range tags {
		if !isPair(tag) {
			return false
		}
	}
	return true
}

func FrameOk(f Frame) bool {
	return isMac(f.Dst) && isMac(f.Src) && areTags(f.Tags) && isType(f.Type) && len(f.Data) <= MaxData
}

func FrameBytes(f Frame) string {
	if !FrameOk(f) {
		return ""
	}
	out := BytesOf(f.Dst, macWidth) + BytesOf(f.Src, macWidth)
	for _, tag := range f.Tags {
		out += BytesOf(tagType, 2) + BytesOf(tag, 2)
	}
	return out + BytesOf(f.Type, 2) + f.Data
}

// A byteReader goes through a text, number by number. Once bytes lack it stays failed, so that whoever reads asks only at the end.
type byteReader struct {
	text   string
	place  int64
	failed bool
}

func (r *byteReader) number(k int64) int64 {
	n, ok := NumAt(r.text, r.place, k)
	if !ok {
		r.failed = true
		return 0
	}
	r.place += k
	return n
}

// The next bytes; size is not below 0.
func (r *byteReader) piece(size int64) string {
	if size > int64(len(r.text))-r.place {
		r.failed = true
		return ""
	}
	from := r.place
	r.place += size
	return strings.Clone(r.text[from:r.place])
}

func (r *byteReader) atEnd() bool {
	return r.place == int64(len(r.text))
}

// The tags, and the type behind them. A third tag is not gone into: its 33024 is told as the type, which no frame has.
func (r *byteReader) tagsAndType() ([]int64, int64) {
	var tags []int64
	kind := r.number(2)
	for kind == tagType && len(tags) < maxTags {
		tags = append(tags, r.number(2))
		kind = r.number(2)
	}
	return tags, kind
}

func (r *byteReader) rest() string {
	return strings.Clone(r.text[r.place:])
}

func ReadFrame(s string) (Frame, bool) {
	r := &byteReader{text: s}
	var f Frame
	f.Dst = r.number(macWidth)
	f.Src = r.number(macWidth)
	f.Tags, f.Type = r.tagsAndType()
	f.Data = r.rest()
	if r.failed || !FrameOk(f) {
		return Frame{}, false
	}
	return f, true
}

// The frame with other tags. These are copied behind each other into a list of their own, never into the spare room of f.Tags.
func withTags(f Frame, first []int64, more []int64) Frame {
	var tags []int64
	tags = append(tags, first...)
	tags = append(tags, more...)
	return Frame{Dst: f.Dst, Src: f.Src, Tags: tags, Type: f.Type, Data: strings.Clone(f.Data)}
}

func Tagged(f Frame, tag int64) (Frame, bool) {
	if !FrameOk(f) || !isPair(tag) || len(f.Tags) == maxTags {
		return Frame{}, false
	}
	return withTags(f, []int64{tag}, f.Tags), true
}

func Untagged(f Frame) (Frame, int64, bool) {
	if !FrameOk(f) || len(f.Tags) == 0 {
		return Frame{}, 0, false
	}
	return withTags(f, nil, f.Tags[1:]), f.Tags[0], true
}

func MacText(n int64) string {
	if !isMac(n) {
		return ""
	}
	digits := HexOf(BytesOf(n, macWidth))
	out := digits[:2]
	for i := 2; i < len(digits); i += 2 {
		out += ":" + digits[i:i+2]
	}
	return out
}

func ReadMac(s string) (int64, bool) {
	if len(s) != macTextSize {
		return 0, false
	}
	digits := s[:2]
	for i := 2; i < macTextSize; i += 3 {
		if s[i] != ':' {
			return 0, false
		}
		digits += s[i+1 : i+3]
	}
	packed, ok := ReadHex(digits)
	if !ok {
		return 0, false
	}
	return NumAt(packed, 0, macWidth)
}

package tests

import (
	"fmt"
	"slices"
	"testing"
	"unsafe"

	"loop.example/g00675/impl"
)

const (
	leastInt    = -1 << 63
	greatestInt = 1<<63 - 1
)

// outsiders are numbers that no field, width or place may be.
var outsiders = []int64{leastInt, leastInt + 1, -1 << 32, -2, -1, 1 << 62, greatestInt - 1, greatestInt}

// A maker gives numbers that look mixed and are the same in every run.
type maker struct {
	state uint64
}

func (m *maker) below(n int64) int64 {
	m.state = m.state*6364136223846793005 + 1442695040888963407
	return int64(m.state>>11) % n
}

func (m *maker) text(size int) string {
	out := make([]byte, size)
	for i := range out {
		out[i] = byte(m.below(256))
	}
	return string(out)
}

func sameFrame(a impl.Frame, b impl.Frame) bool {
	return a.Dst == b.Dst && a.Src == b.Src && slices.Equal(a.Tags, b.Tags) && a.Type == b.Type && a.Data == b.Data
}

func wantText(t *testing.T, what string, got string, want string) {
	t.Helper()
	if got != want {
		t.Errorf("%s: got %q, want %q", what, got, want)
	}
}

func wantNumber(t *testing.T, what string, got int64, want int64) {
	t.Helper()
	if got != want {
		t.Errorf("%s: got %d, want %d", what, got, want)
	}
}

// sharesBytes: whether some byte of b lies where one of a lies.
func sharesBytes(a string, b string) bool {
	if a == "" || b == "" {
		return false
	}
	first, second := uintptr(unsafe.Pointer(unsafe.StringData(a))), uintptr(unsafe.Pointer(unsafe.StringData(b)))
	return first < second+uintptr(len(b)) && second < first+uintptr(len(a))
}

// brief tells a thing by its first characters, as its texts may be long.
func brief(thing any) string {
	s := fmt.Sprintf("%+q", fmt.Sprint(thing))
	return s[:min(len(s), 400)]
}

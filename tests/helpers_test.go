package tests

import (
	"slices"
	"strings"
	"testing"

	"loop.example/g01176/impl"
)

func wantInts(t *testing.T, name string, got []int, ok bool, want []int) {
	t.Helper()
	if !ok || !slices.Equal(got, want) {
		t.Errorf("%s: got %v, %v, want %v", name, got, ok, want)
	}
}

func wantNoInts(t *testing.T, name string, got []int, ok bool) {
	t.Helper()
	if ok || len(got) != 0 {
		t.Errorf("%s: got %v, %v, want a failure", name, got, ok)
	}
}

func wantInt(t *testing.T, name string, got int, ok bool, want int) {
	t.Helper()
	if !ok || got != want {
		t.Errorf("%s: got %v, %v, want %v", name, got, ok, want)
	}
}

func wantNoInt(t *testing.T, name string, got int, ok bool) {
	t.Helper()
	if ok || got != 0 {
		t.Errorf("%s: got %v, %v, want a failure", name, got, ok)
	}
}

func wantFrame(t *testing.T, name string, got impl.Frame, ok bool, want impl.Frame) {
	t.Helper()
	if !ok || !sameFrame(got, want) {
		t.Errorf("%s: got %v, %v, want %v", name, got, ok, want)
	}
}

func wantNoFrame(t *testing.T, name string, got impl.Frame, ok bool) {
	t.Helper()
	if ok || !sameFrame(got, impl.Frame{}) {
		t.Errorf("%s: got %v, %v, want a failure", name, got, ok)
	}
}

func wantFrames(t *testing.T, name string, bits []int, want ...impl.Frame) {
	t.Helper()
	got, ok := impl.FramesOnWire(bits)
	if !ok || !slices.EqualFunc(got, want, sameFrame) {
		t.Errorf("%s: got %v, %v, want %v", name, got, ok, want)
	}
}

func sameFrame(a, b impl.Frame) bool {
	return a.From == b.From && a.To == b.To && a.Priority == b.Priority && slices.Equal(a.Data, b.Data)
}

// bitsIn reads a text of 0 and 1; all else is passed over, so that blanks may part it.
func bitsIn(text string) []int {
	bits := []int{}
	for _, r := range text {
		if r == '0' || r == '1' {
			bits = append(bits, int(r-'0'))
		}
	}
	return bits
}

func textOfBits(bits []int) string {
	var text strings.Builder
	for _, b := range bits {
		text.WriteByte(byte('0' + b))
	}
	return text.String()
}

// everyBits calls see with all lists of so many bits.
func everyBits(n int, see func(bits []int)) {
	for number := range 1 << n {
		bits := make([]int, n)
		for i := range bits {
			bits[i] = number >> (n - 1 - i) & 1
		}
		see(bits)
	}
}

// everyPlaces calls see with all lists of k strictly increasing places below n, in lexicographic order.
func everyPlaces(n, k int, see func(places []int)) {
	places := make([]int, 0, k)
	var extend func(first int)
	extend = func(first int) {
		if len(places) == k {
			see(places)
			return
		}
		for p := first; p < n; p++ {
			places = append(places, p)
			extend(p + 1)
			places = places[:len(places)-1]
		}
	}
	extend(0)
}

// numbers makes numbers that look random and are the same in every run.
type numbers struct{ state uint64 }

func (n *numbers) below(limit int) int {
	n.state = n.state*6364136223846793005 + 1442695040888963407
	return int((n.state >> 33) % uint64(limit))
}

func (n *numbers) list(length, limit int) []int {
	list := make([]int, length)
	for i := range list {
		list[i] = n.below(limit)
	}
	return list
}

func (n *numbers) frame() impl.Frame {
	f := impl.Frame{From: n.below(impl.MaxStations), To: n.below(impl.MaxStations), Priority: n.below(8)}
	f.Data = n.list(n.below(impl.MaxData+1), 256)
	if n.below(3) == 0 { // many ones, so that much is stuffed
		for i := range f.Data {
			f.Data[i] |= 252
		}
	}
	return f
}

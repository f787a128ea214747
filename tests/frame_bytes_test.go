package tests

import (
	"math"
	"slices"
	"testing"

	"loop.example/g01176/impl"
)

var exampleFrame = impl.Frame{From: 1, To: 2, Priority: 3, Data: []int{255}}

// edgeFrames are at the limits that the document names.
func edgeFrames() []impl.Frame {
	last := impl.MaxStations - 1
	return []impl.Frame{
		exampleFrame,
		{},
		{Data: []int{}},
		{Data: []int{0}},
		{From: last, To: last, Priority: 7},
		{From: 0, To: last},
		{From: last, To: 0},
		{From: 5, To: 5, Priority: 1, Data: []int{31, 62, 124, 248}},
		{From: last, To: last, Priority: 7, Data: slices.Repeat([]int{255}, impl.MaxData)},
		{Data: slices.Repeat([]int{0}, impl.MaxData)},
		{From: 3, To: 7, Priority: 4, Data: []int{0, 1, 126, 127, 128, 254, 255}},
	}
}

func notFrames() []impl.Frame {
	return []impl.Frame{
		{From: -1},
		{To: -1},
		{Priority: -1},
		{From: impl.MaxStations},
		{To: impl.MaxStations},
		{From: 16},
		{Priority: 8},
		{From: math.MinInt},
		{To: math.MaxInt},
		{Priority: math.MaxInt},
		{Data: []int{256}},
		{Data: []int{-1}},
		{Data: []int{0, 0, math.MinInt}},
		{Data: slices.Repeat([]int{0}, impl.MaxData+1)},
		{Data: slices.Repeat([]int{0}, 32)},
	}
}

func TestLimits(t *testing.T) {
	if impl.MaxStations != 12 || impl.MaxData != 16 || impl.MaxBits != 400 {
		t.Error("the limits are not the document's")
	}
}

func TestIsFrame(t *testing.T) {
	for _, f := range edgeFrames() {
		if !impl.IsFrame(f) {
			t.Errorf("%v is a frame", f)
		}
	}
	for _, f := range notFrames() {
		if impl.IsFrame(f) {
			t.Errorf("%v is no frame", f)
		}
	}
	for n := -2; n <= 260; n++ {
		station := n >= 0 && n < impl.MaxStations
		if impl.IsFrame(impl.Frame{From: n}) != station || impl.IsFrame(impl.Frame{To: n}) != station {
			t.Errorf("station %d", n)
		}
		if impl.IsFrame(impl.Frame{Priority: n}) != (n >= 0 && n <= 7) {
			t.Errorf("priority %d", n)
		}
		if impl.IsFrame(impl.Frame{Data: []int{7, n}}) != (n >= 0 && n <= 255) {
			t.Errorf("data %d", n)
		}
	}
}

func TestBytesOf(t *testing.T) {
	for _, c := range []struct {
		frame impl.Frame
		bytes []int
	}{
		{exampleFrame, []int{18, 97, 255, 103}},
		{impl.Frame{}, []int{0, 0, 0}},
		{impl.Frame{From: 1, To: 2, Priority: 3}, []int{18, 96, 90}},
		{impl.Frame{From: 11, To: 11, Priority: 7}, []int{187, 224, 118}},
		{
			impl.Frame{From: 11, To: 11, Priority: 7, Data: slices.Repeat([]int{255}, 16)},
			slices.Concat([]int{187, 240}, slices.Repeat([]int{255}, 16), []int{246}),
		},
	} {
		got, ok := impl.BytesOf(c.frame)
		wantInts(t, "BytesOf", got, ok, c.bytes)
	}
	for _, f := range notFrames() {
		got, ok := impl.BytesOf(f)
		wantNoInts(t, "BytesOf", got, ok)
	}
}

func TestFramesComeBackFromBytes(t *testing.T) {
	frames := edgeFrames()
	random := &numbers{1}
	for range 500 {
		frames = append(frames, random.frame())
	}
	for _, f := range frames {
		list, ok := impl.BytesOf(f)
		if checked, is := impl.HasCheck(list); !ok || !checked || !is || len(list) != len(f.Data)+3 {
			t.Errorf("the bytes of %v are %v, %v", f, list, ok)
		}
		back, ok := impl.FrameOf(list)
		wantFrame(t, "FrameOf", back, ok, f)
	}
}

// All heads, with fewer, as many and more data than they tell.
func TestFrameOfTakesOnlyBytesOfFrames(t *testing.T) {
	for first := range 256 {
		for second := range 256 {
			for _, n := range []int{second % 32, (second + 1) % 32, (second + 31) % 32} {
				list := append([]int{first, second}, slices.Repeat([]int{9}, n)...)
				list = append(list, slowCheck(list))
				f := impl.Frame{From: first >> 4, To: first & 15, Priority: second >> 5, Data: list[2 : 2+n]}
				got, ok := impl.FrameOf(list)
				if f.From < 12 && f.To < 12 && n <= 16 && n == second&31 {
					wantFrame(t, "FrameOf", got, ok, f)
				} else {
					wantNoFrame(t, "FrameOf", got, ok)
				}
			}
		}
	}
}

func TestFrameOfFails(t *testing.T) {
	for _, list := range [][]int{
		nil,
		{0},
		{0, 0},
		{18, 97, 255},
		{18, 97, 255, 102},
		{18, 97, 255, 103, 0},
		{18, 97, 103},
		{18, 97, 255 + 256, 103},
		{18 - 256, 97, 255, 103},
		{18, 97 + 256, 255, 103},
		{18, 97, 255, 103 + 256},
		slices.Repeat([]int{0}, 40),
		slices.Repeat([]int{0}, 41),
	} {
		got, ok := impl.FrameOf(list)
		wantNoFrame(t, "FrameOf", got, ok)
	}
	// Every other value of a check is refused.
	for n := -1; n <= 256; n++ {
		if n == 103 {
			continue
		}
		got, ok := impl.FrameOf([]int{18, 97, 255, n})
		wantNoFrame(t, "FrameOf", got, ok)
	}
}

// slowCheck divides as one does on paper, bit by bit.
func slowCheck(list []int) int {
	var bits []int
	for _, b := range append(slices.Clone(list), 0) {
		for _, weight := range []int{128, 64, 32, 16, 8, 4, 2, 1} {
			bits = append(bits, b/weight%2)
		}
	}
	divisor := []int{1, 0, 0, 0, 0, 0, 1, 1, 1}
	for i := 0; i+8 < len(bits); i++ {
		if bits[i] == 0 {
			continue
		}
		for k, d := range divisor {
			bits[i+k] = (bits[i+k] + d) % 2
		}
	}
	check := 0
	for _, b := range bits[len(bits)-8:] {
		check = check*2 + b
	}
	return check
}

func TestCheckOf(t *testing.T) {
	for _, c := range []struct {
		list  []int
		check int
	}{
		{nil, 0},
		{[]int{0}, 0},
		{[]int{1}, 7},
		{[]int{255}, 243},
		{[]int{18, 97, 255}, 103},
		{[]int{'1', '2', '3', '4', '5', '6', '7', '8', '9'}, 244},
		{slices.Repeat([]int{255}, 40), 92},
	} {
		got, ok := impl.CheckOf(c.list)
		wantInt(t, "CheckOf", got, ok, c.check)
	}
	random := &numbers{2}
	for length := range 41 {
		for range 20 {
			list := random.list(length, 256)
			got, ok := impl.CheckOf(list)
			wantInt(t, "CheckOf", got, ok, slowCheck(list))
		}
	}
	for _, list := range notBytes() {
		got, ok := impl.CheckOf(list)
		wantNoInt(t, "CheckOf", got, ok)
	}
}

func notBytes() [][]int {
	return [][]int{
		{256},
		{-1},
		{0, 1, 256},
		{-1, 0, 0},
		{math.MaxInt},
		{math.MinInt},
		slices.Repeat([]int{0}, 41),
		slices.Repeat([]int{1}, 3000),
	}
}

func TestHasCheck(t *testing.T) {
	for _, list := range [][]int{{}, {1}, {18, 97, 255}} {
		for last := range 256 {
			got, ok := impl.HasCheck(append(slices.Clone(list), last))
			if !ok || got != (last == slowCheck(list)) {
				t.Errorf("HasCheck of %v and %d: %v, %v", list, last, got, ok)
			}
		}
	}
	long := slices.Repeat([]int{170}, 39)
	if got, ok := impl.HasCheck(append(long, slowCheck(long))); !got || !ok {
		t.Error("40 bytes with their check")
	}
	for _, list := range append(notBytes(), nil, []int{}) {
		if got, ok := impl.HasCheck(list); got || ok {
			t.Errorf("HasCheck of %v: %v, %v", list, got, ok)
		}
	}
}

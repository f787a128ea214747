package tests

import (
	"math"
	"slices"
	"testing"

	"loop.example/g01176/impl"
)

// frameLists are bytes, bits, places and what is none of these.
func frameLists(t *testing.T) [][]int {
	t.Helper()
	wire, ok := impl.WireOf(exampleFrame)
	if !ok {
		t.Fatal("WireOf fails")
	}
	lists := [][]int{
		nil,
		{},
		{0},
		{1, 1, 1, 1, 1, 1, 1, 1},
		{0, 1, 2, 3, 4, 5, 6, 7},
		{0, 5, 9},
		{3, 3},
		{5, 2},
		{319},
		{320},
		{0, 0, 0},
		{18, 97, 255, 103},
		{18, 97, 255, 104},
		{18, 96, 90},
		wire,
		slices.Concat(wire, []int{1, 0}, wire, wire[8:]),
		bitsIn(flag + flag + flag),
		zeros(40),
		slices.Repeat([]int{255}, 40),
		slices.Repeat([]int{255}, 41),
		ones(334),
		ones(335),
		zeros(320),
		zeros(328),
		zeros(400),
		zeros(401),
	}
	for _, f := range edgeFrames() {
		list, _ := impl.BytesOf(f)
		lists = append(lists, list)
	}
	return slices.Concat(lists, notBytes(), notBits())
}

func TestFramesAreSafe(t *testing.T) {
	p := pools{}
	for _, list := range frameLists(t) {
		p.add(list)
	}
	for _, f := range slices.Concat(edgeFrames(), notFrames()) {
		p.add(f)
	}
	for n := -1; n <= 8; n++ {
		p.add(n)
	}
	p.add(math.MinInt, math.MaxInt, 1000000, -1000000)
	for _, s := range notFrameTexts() {
		p.add(s)
	}
	p.add("1>2:3:ff", "0>0:0:", "11>11:7:000102")
	for name, function := range map[string]any{
		"IsFrame":      impl.IsFrame,
		"BytesOf":      impl.BytesOf,
		"FrameOf":      impl.FrameOf,
		"CheckOf":      impl.CheckOf,
		"HasCheck":     impl.HasCheck,
		"BitsOf":       impl.BitsOf,
		"FromBits":     impl.FromBits,
		"StuffBits":    impl.StuffBits,
		"UnstuffBits":  impl.UnstuffBits,
		"WireOf":       impl.WireOf,
		"FramesOnWire": impl.FramesOnWire,
		"FlipBits":     impl.FlipBits,
		"DistanceOf":   impl.DistanceOf,
		"FirstBlind":   impl.FirstBlind,
		"CountBlind":   impl.CountBlind,
		"FrameText":    impl.FrameText,
		"ParseFrame":   impl.ParseFrame,
	} {
		checkSafety(t, name, function, p)
	}
}

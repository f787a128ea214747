package tests

import (
	"math"
	"slices"
	"testing"

	"loop.example/g01176/impl"
)

func TestRingsAreSafe(t *testing.T) {
	p := pools{}
	for _, r := range slices.Concat(edgeRings(), notRings()) {
		p.add(r)
	}
	p.add(impl.Ring{Stations: 5, Broken: []int{}}, impl.Ring{Broken: []int{}}, impl.Ring{Stations: 13, Broken: []int{}})
	for n := -2; n <= 14; n++ {
		p.add(n)
	}
	p.add(math.MinInt, math.MaxInt, 1000000, -1000000)
	for _, s := range notRingTexts() {
		p.add(s)
	}
	p.add("5:1,3", "2:", "2:0,1", "12:0,1,2,3,4,5,6,7,8,9,10,11")
	for name, function := range map[string]any{
		"IsRing":       impl.IsRing,
		"WholeRing":    impl.WholeRing,
		"BreakLink":    impl.BreakLink,
		"MendLink":     impl.MendLink,
		"NextOf":       impl.NextOf,
		"HopsOf":       impl.HopsOf,
		"WayOf":        impl.WayOf,
		"PiecesOf":     impl.PiecesOf,
		"WrapFrom":     impl.WrapFrom,
		"DoubleHops":   impl.DoubleHops,
		"WidestOf":     impl.WidestOf,
		"CanAllTalk":   impl.CanAllTalk,
		"CountTalking": impl.CountTalking,
		"LeaveOut":     impl.LeaveOut,
		"TurnRing":     impl.TurnRing,
		"MirrorRing":   impl.MirrorRing,
		"RingText":     impl.RingText,
		"ParseRing":    impl.ParseRing,
	} {
		checkSafety(t, name, function, p)
	}
}

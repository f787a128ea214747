package tests

import (
	"fmt"
	"math"
	"slices"
	"testing"

	"loop.example/g01176/impl"
)

// notNumbersOf are numbers of no station and of no link of a ring.
func notNumbersOf(r impl.Ring) []int {
	return []int{-1, r.Stations, r.Stations + 1, -r.Stations, 1000000, -1000000, math.MinInt, math.MaxInt, 1 << 32}
}

func TestIsRing(t *testing.T) {
	everyRingUpTo(impl.MaxStations, func(r impl.Ring) {
		if !impl.IsRing(r) {
			t.Errorf("%v is no ring", r)
		}
	})
	for _, r := range notRings() {
		if impl.IsRing(r) {
			t.Errorf("%v is a ring", r)
		}
	}
}

func TestIsRingOfFewLinks(t *testing.T) {
	for stations := -1; stations <= 14; stations++ {
		for a := -2; a <= 14; a++ {
			for b := -2; b <= 14; b++ {
				want := 2 <= stations && stations <= 12 && 0 <= a && a < b && b < stations
				if got := impl.IsRing(ring(stations, a, b)); got != want {
					t.Errorf("IsRing %d:%d,%d is %v", stations, a, b, got)
				}
			}
		}
	}
}

func TestWholeRing(t *testing.T) {
	for n := 2; n <= 12; n++ {
		got, ok := impl.WholeRing(n)
		wantRing(t, fmt.Sprint("WholeRing ", n), got, ok, ring(n))
	}
	for _, n := range []int{1, 0, -1, -2, 13, 14, 1000000, math.MinInt, math.MaxInt, 1<<32 + 5} {
		got, ok := impl.WholeRing(n)
		wantNoRing(t, fmt.Sprint("WholeRing ", n), got, ok)
	}
}

func TestBreakAndMendExamples(t *testing.T) {
	for _, c := range []struct {
		whole  impl.Ring
		link   int
		broken impl.Ring
	}{
		{ring(2), 0, ring(2, 0)},
		{ring(2), 1, ring(2, 1)},
		{ring(2, 0), 1, ring(2, 0, 1)},
		{ring(2, 1), 0, ring(2, 0, 1)},
		{exampleRing, 0, ring(5, 0, 1, 3)},
		{exampleRing, 2, ring(5, 1, 2, 3)},
		{exampleRing, 4, ring(5, 1, 3, 4)},
		{ring(12), 11, ring(12, 11)},
	} {
		got, ok := impl.BreakLink(c.whole, c.link)
		wantRing(t, fmt.Sprint("BreakLink ", c.whole, c.link), got, ok, c.broken)
		got, ok = impl.MendLink(c.broken, c.link)
		wantRing(t, fmt.Sprint("MendLink ", c.broken, c.link), got, ok, c.whole)
		got, ok = impl.BreakLink(c.broken, c.link)
		wantNoRing(t, fmt.Sprint("BreakLink ", c.broken, c.link), got, ok)
		got, ok = impl.MendLink(c.whole, c.link)
		wantNoRing(t, fmt.Sprint("MendLink ", c.whole, c.link), got, ok)
	}
}

// A link that is not broken can be broken, and mended again; one that is broken, the other way round.
func TestBreakAndMendAllLinks(t *testing.T) {
	everyRingUpTo(impl.MaxStations, func(r impl.Ring) {
		for k := range r.Stations {
			name := fmt.Sprint(r, k)
			change, back := impl.BreakLink, impl.MendLink
			if slices.Contains(r.Broken, k) {
				change, back = impl.MendLink, impl.BreakLink
			}
			changed, ok := change(r, k)
			if !ok || !impl.IsRing(changed) || slices.Contains(changed.Broken, k) == slices.Contains(r.Broken, k) {
				t.Errorf("%s: link changed: %v, %v", name, changed, ok)
			}
			again, ok := back(changed, k)
			wantRing(t, name+": link changed back", again, ok, r)
			failed, ok := back(r, k)
			wantNoRing(t, name+": link changed to what it is", failed, ok)
		}
	})
}

func TestNextOf(t *testing.T) {
	for s, want := range []int{1, -1, 3, -1, 0} {
		got, ok := impl.NextOf(exampleRing, s)
		if want >= 0 {
			wantInt(t, fmt.Sprint("NextOf ", s), got, ok, want)
		} else {
			wantNoInt(t, fmt.Sprint("NextOf ", s), got, ok)
		}
	}
	everyRingUpTo(impl.MaxStations, func(r impl.Ring) {
		links := plainLinks(r)
		for s := range r.Stations {
			got, ok := impl.NextOf(r, s)
			if link, whole := links[s]; ok != whole || got != link.to {
				t.Errorf("NextOf %v, %d: %d, %v", r, s, got, ok)
			}
		}
	})
}

func TestLinksOfOthersFail(t *testing.T) {
	try := func(r impl.Ring, k int) {
		name := fmt.Sprint(r, k)
		got, ok := impl.BreakLink(r, k)
		wantNoRing(t, "BreakLink "+name, got, ok)
		got, ok = impl.MendLink(r, k)
		wantNoRing(t, "MendLink "+name, got, ok)
		next, ok := impl.NextOf(r, k)
		wantNoInt(t, "NextOf "+name, next, ok)
	}
	for _, r := range edgeRings() {
		for _, k := range notNumbersOf(r) {
			try(r, k)
		}
	}
	for _, r := range notRings() {
		for k := -1; k <= 13; k++ {
			try(r, k)
		}
	}
}

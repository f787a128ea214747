package tests

import (
	"fmt"
	"slices"
	"testing"

	"loop.example/g01176/impl"
)

func TestLeaveOutExamples(t *testing.T) {
	for _, c := range []struct {
		ring impl.Ring
		s    int
		want impl.Ring
	}{
		{exampleRing, 1, ring(4, 0, 2)},
		{exampleRing, 0, ring(4, 0, 2)},
		{exampleRing, 2, ring(4, 1, 2)},
		{exampleRing, 3, ring(4, 1, 2)},
		{exampleRing, 4, ring(4, 1, 3)},
		{ring(5, 0), 0, ring(4, 3)},
		{ring(5, 4), 0, ring(4, 3)},
		{ring(5, 0, 4), 0, ring(4, 3)},
		{ring(5, 3), 4, ring(4, 3)},
		{ring(5, 4), 4, ring(4, 3)},
		{ring(5, 3, 4), 4, ring(4, 3)},
		{ring(5, 1, 2), 2, ring(4, 1)},
		{ring(5, 0, 1, 2, 3, 4), 2, ring(4, 0, 1, 2, 3)},
		{ring(3), 0, ring(2)},
		{ring(3), 2, ring(2)},
		{ring(3, 0), 0, ring(2, 1)},
		{ring(3, 0), 1, ring(2, 0)},
		{ring(3, 0), 2, ring(2, 0)},
		{ring(3, 0, 1, 2), 1, ring(2, 0, 1)},
		{ring(12), 11, ring(11)},
		{ring(12, 11), 5, ring(11, 10)},
	} {
		got, ok := impl.LeaveOut(c.ring, c.s)
		wantRing(t, fmt.Sprint("LeaveOut ", c.ring, c.s), got, ok, c.want)
	}
}

// plainWithout writes the stations down in their order, takes one out, and asks between all that are next
// to each other then whether there is a way.
func plainWithout(r impl.Ring, out int) impl.Ring {
	var stay []int
	for s := range r.Stations {
		if s != out {
			stay = append(stay, s)
		}
	}
	left := ring(len(stay))
	for k, s := range stay {
		if _, ok := plainWay(r, s, stay[(k+1)%len(stay)]); !ok {
			left.Broken = append(left.Broken, k)
		}
	}
	return left
}

func TestLeaveOutOfAllRings(t *testing.T) {
	everyRingUpTo(impl.MaxStations, func(r impl.Ring) {
		for s := range r.Stations {
			name := fmt.Sprint("LeaveOut ", r, s)
			got, ok := impl.LeaveOut(r, s)
			if r.Stations == 2 {
				wantNoRing(t, name, got, ok)
			} else {
				wantRing(t, name, got, ok, plainWithout(r, s))
			}
		}
	})
}

func TestTurnAndMirrorExamples(t *testing.T) {
	for by, want := range []impl.Ring{exampleRing, ring(5, 2, 4), ring(5, 0, 3), ring(5, 1, 4), ring(5, 0, 2)} {
		got, ok := impl.TurnRing(exampleRing, by)
		wantRing(t, fmt.Sprint("TurnRing by ", by), got, ok, want)
	}
	for _, c := range [][2]impl.Ring{
		{exampleRing, ring(5, 0, 2)},
		{ring(2), ring(2)}, {ring(2, 0), ring(2, 0)}, {ring(2, 1), ring(2, 1)}, {ring(2, 0, 1), ring(2, 0, 1)},
		{ring(3, 0), ring(3, 1)}, {ring(3, 2), ring(3, 2)},
		{ring(12, 0, 11), ring(12, 10, 11)}, {ring(12), ring(12)},
	} {
		got, ok := impl.MirrorRing(c[0])
		wantRing(t, fmt.Sprint("MirrorRing ", c[0]), got, ok, c[1])
		got, ok = impl.MirrorRing(c[1])
		wantRing(t, fmt.Sprint("MirrorRing ", c[1]), got, ok, c[0])
	}
}

// plainCalled returns the ring with other names of its stations, whose links lead as told.
func plainCalled(t *testing.T, r impl.Ring, nameOf func(s int) int, forwards bool) impl.Ring {
	t.Helper()
	whole := map[plainLink]bool{}
	for _, link := range plainLinks(r) {
		if forwards {
			whole[plainLink{nameOf(link.from), nameOf(link.to)}] = true
		} else {
			whole[plainLink{nameOf(link.to), nameOf(link.from)}] = true
		}
	}
	called := ring(r.Stations)
	for k, link := range plainLinks(called) {
		if !whole[link] {
			called.Broken = append(called.Broken, k)
		}
		delete(whole, link)
	}
	if len(whole) > 0 {
		t.Errorf("%v has links %v beside those of a ring", r, whole)
	}
	slices.Sort(called.Broken)
	return called
}

func TestTurnAndMirrorOfAllRings(t *testing.T) {
	everyRingUpTo(10, func(r impl.Ring) {
		n := r.Stations
		for by := range n {
			got, ok := impl.TurnRing(r, by)
			want := plainCalled(t, r, func(s int) int { return (s + by) % n }, true)
			wantRing(t, fmt.Sprint("TurnRing ", r, by), got, ok, want)
		}
		got, ok := impl.MirrorRing(r)
		want := plainCalled(t, r, func(s int) int { return n - 1 - s }, false)
		wantRing(t, fmt.Sprint("MirrorRing ", r), got, ok, want)
	})
}

func TestTurnAndMirrorComeBack(t *testing.T) {
	everyRingUpTo(impl.MaxStations, func(r impl.Ring) {
		mirrored, _ := impl.MirrorRing(r)
		again, ok := impl.MirrorRing(mirrored)
		wantRing(t, fmt.Sprint("MirrorRing twice of ", r), again, ok, r)
		for by := range r.Stations {
			turned, _ := impl.TurnRing(r, by)
			again, ok := impl.TurnRing(turned, (r.Stations-by)%r.Stations)
			wantRing(t, fmt.Sprint("TurnRing there and back of ", r, by), again, ok, r)
		}
	})
}

func TestChangesOfOthersFail(t *testing.T) {
	try := func(r impl.Ring, s int) {
		got, ok := impl.LeaveOut(r, s)
		wantNoRing(t, fmt.Sprint("LeaveOut ", r, s), got, ok)
		got, ok = impl.TurnRing(r, s)
		wantNoRing(t, fmt.Sprint("TurnRing ", r, s), got, ok)
	}
	for _, r := range edgeRings() {
		for _, s := range notNumbersOf(r) {
			try(r, s)
		}
	}
	for _, r := range notRings() {
		for s := -1; s <= 13; s++ {
			try(r, s)
		}
		got, ok := impl.MirrorRing(r)
		wantNoRing(t, fmt.Sprint("MirrorRing ", r), got, ok)
	}
}

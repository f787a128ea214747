package tests

import (
	"fmt"
	"math"
	"slices"
	"testing"

	"loop.example/g01176/impl"
)

func wantPieces(t *testing.T, r impl.Ring, want ...[]int) {
	t.Helper()
	got, ok := impl.PiecesOf(r)
	if !ok || !slices.EqualFunc(got, want, slices.Equal[[]int]) {
		t.Errorf("PiecesOf %v: got %v, %v, want %v", r, got, ok, want)
	}
}

func TestPiecesExamples(t *testing.T) {
	wantPieces(t, exampleRing, []int{4, 0, 1}, []int{2, 3})
	wantPieces(t, ring(2), []int{0, 1})
	wantPieces(t, ring(2, 0), []int{1, 0})
	wantPieces(t, ring(2, 1), []int{0, 1})
	wantPieces(t, ring(2, 0, 1), []int{0}, []int{1})
	wantPieces(t, ring(5), []int{0, 1, 2, 3, 4})
	wantPieces(t, ring(5, 2), []int{3, 4, 0, 1, 2})
	wantPieces(t, ring(5, 4), []int{0, 1, 2, 3, 4})
	wantPieces(t, ring(5, 0, 4), []int{0}, []int{1, 2, 3, 4})
	wantPieces(t, ring(5, 0, 2), []int{3, 4, 0}, []int{1, 2})
	wantPieces(t, ring(12), []int{0, 1, 2, 3, 4, 5, 6, 7, 8, 9, 10, 11})
	wantPieces(t, ring(12, 3, 8), []int{9, 10, 11, 0, 1, 2, 3}, []int{4, 5, 6, 7, 8})
	wantPieces(t, ring(3, 0, 1, 2), []int{0}, []int{1}, []int{2})
}

// The pieces of a ring share its stations: each is in one, with all to which it has a way, and no other.
func TestPiecesShareTheStations(t *testing.T) {
	everyRingUpTo(impl.MaxStations, func(r impl.Ring) {
		pieces, ok := impl.PiecesOf(r)
		if !ok || len(slices.Concat(pieces...)) != r.Stations {
			t.Errorf("PiecesOf %v: %v, %v", r, pieces, ok)
		}
		least := -1
		for _, piece := range pieces {
			if complaint := complaintOfPiece(r, piece); complaint != "" {
				t.Errorf("PiecesOf %v: the piece %v %s", r, piece, complaint)
			}
			if slices.Min(piece) <= least {
				t.Errorf("PiecesOf %v: %v is not ordered", r, pieces)
			}
			least = slices.Min(piece)
		}
	})
}

func complaintOfPiece(r impl.Ring, piece []int) string {
	links := plainLinks(r)
	for i := 1; i < len(piece); i++ {
		if next, ok := plainStep(links, piece[i-1], true); !ok || next != piece[i] {
			return "is not in the order of the ring"
		}
	}
	if _, ok := plainStep(links, piece[0], false); ok && (len(links) < r.Stations || piece[0] != 0) {
		return "does not begin with its first station"
	}
	for s, distance := range plainDistances(r, piece[0]) {
		if (distance >= 0) != slices.Contains(piece, s) {
			return "lacks a station or has one too many"
		}
	}
	return ""
}

func TestWaysExamples(t *testing.T) {
	for _, c := range []struct {
		ring impl.Ring
		a, b int
		way  []int
	}{
		{exampleRing, 4, 1, []int{4, 0, 1}},
		{exampleRing, 0, 1, []int{0, 1}},
		{exampleRing, 2, 3, []int{2, 3}},
		{exampleRing, 1, 4, nil},
		{exampleRing, 3, 2, nil},
		{exampleRing, 0, 3, nil},
		{exampleRing, 0, 0, []int{0}},
		{exampleRing, 3, 3, []int{3}},
		{ring(2), 0, 1, []int{0, 1}},
		{ring(2), 1, 0, []int{1, 0}},
		{ring(2, 0), 0, 1, nil},
		{ring(2, 0), 1, 0, []int{1, 0}},
		{ring(2, 0, 1), 1, 1, []int{1}},
		{ring(12), 1, 0, []int{1, 2, 3, 4, 5, 6, 7, 8, 9, 10, 11, 0}},
		{ring(12, 0), 1, 0, []int{1, 2, 3, 4, 5, 6, 7, 8, 9, 10, 11, 0}},
		{ring(12, 11), 1, 0, nil},
	} {
		name := fmt.Sprint(c.ring, c.a, c.b)
		way, ok := impl.WayOf(c.ring, c.a, c.b)
		hops, okHops := impl.HopsOf(c.ring, c.a, c.b)
		if c.way == nil {
			wantNoInts(t, "WayOf "+name, way, ok)
			wantNoInt(t, "HopsOf "+name, hops, okHops)
		} else {
			wantInts(t, "WayOf "+name, way, ok, c.way)
			wantInt(t, "HopsOf "+name, hops, okHops, len(c.way)-1)
		}
	}
}

func TestWaysOfAllRings(t *testing.T) {
	everyRingUpTo(9, func(r impl.Ring) { checkWays(t, r) })
	for _, r := range edgeRings() {
		checkWays(t, r)
	}
	random := &numbers{11}
	for range 100 {
		checkWays(t, ring(12, placesOfOnes(random.list(12, 2))...))
		checkWays(t, ring(10+random.below(3), random.below(10)))
	}
}

// checkWays compares ways and hops with plain walks. Ways stay within the piece in which they begin.
func checkWays(t *testing.T, r impl.Ring) {
	t.Helper()
	pieces, _ := impl.PiecesOf(r)
	for a := range r.Stations {
		piece := pieces[slices.IndexFunc(pieces, func(piece []int) bool { return slices.Contains(piece, a) })]
		distances := plainDistances(r, a)
		for b := range r.Stations {
			name := fmt.Sprint(r, a, b)
			want, wantOk := plainWay(r, a, b)
			way, ok := impl.WayOf(r, a, b)
			hops, okHops := impl.HopsOf(r, a, b)
			if ok != wantOk || !slices.Equal(way, want) {
				t.Errorf("WayOf %s: %v, %v, want %v, %v", name, way, ok, want, wantOk)
			}
			if okHops != wantOk || hops != max(len(want)-1, 0) {
				t.Errorf("HopsOf %s: %d, %v, way %v, %v", name, hops, okHops, want, wantOk)
			}
			for _, s := range way {
				if !slices.Contains(piece, s) {
					t.Errorf("WayOf %s: %v leaves the piece %v", name, way, piece)
				}
			}
			double, ok := impl.DoubleHops(r, a, b)
			if ok != (distances[b] >= 0) || double != max(distances[b], 0) {
				t.Errorf("DoubleHops %s: %d, %v, want %d", name, double, ok, distances[b])
			}
		}
	}
}

func TestDoubleHopsExamples(t *testing.T) {
	for _, c := range []struct {
		ring       impl.Ring
		a, b, hops int
	}{
		{ring(2), 0, 1, 1}, {ring(2, 0), 0, 1, 1}, {ring(2, 1), 0, 1, 1}, {ring(2, 0, 1), 1, 1, 0},
		{ring(5), 0, 2, 2}, {ring(5), 0, 3, 2}, {ring(5), 4, 0, 1}, {ring(5), 0, 4, 1}, {ring(5, 4), 0, 4, 4}, {ring(5, 4), 4, 0, 4},
		{exampleRing, 4, 1, 2}, {exampleRing, 1, 4, 2}, {exampleRing, 3, 2, 1}, {exampleRing, 3, 3, 0},
		{ring(12), 0, 6, 6}, {ring(12), 0, 7, 5}, {ring(12, 2), 2, 3, 11}, {ring(12, 2), 3, 2, 11},
	} {
		got, ok := impl.DoubleHops(c.ring, c.a, c.b)
		wantInt(t, fmt.Sprint("DoubleHops ", c.ring, c.a, c.b), got, ok, c.hops)
	}
	got, ok := impl.DoubleHops(exampleRing, 1, 2)
	wantNoInt(t, "DoubleHops over a broken link", got, ok)
	got, ok = impl.DoubleHops(ring(2, 0, 1), 0, 1)
	wantNoInt(t, "DoubleHops of stations alone", got, ok)
}

func TestWidestOf(t *testing.T) {
	for n := 2; n <= 12; n++ {
		got, ok := impl.WidestOf(ring(n))
		wantInt(t, fmt.Sprint("WidestOf a whole ring of ", n), got, ok, n/2)
		for k := range n {
			got, ok := impl.WidestOf(ring(n, k))
			wantInt(t, fmt.Sprint("WidestOf ", n, k), got, ok, n-1)
		}
	}
}

func TestWidestAndTalkingOfAllRings(t *testing.T) {
	everyRingUpTo(impl.MaxStations, func(r impl.Ring) {
		var all []int
		for a := range r.Stations {
			all = append(all, plainDistances(r, a)...)
		}
		talk := !slices.Contains(all, -1)
		got, ok := impl.CanAllTalk(r)
		if !ok || got != talk {
			t.Errorf("CanAllTalk %v: %v, %v", r, got, ok)
		}
		widest, ok := impl.WidestOf(r)
		if talk {
			wantInt(t, fmt.Sprint("WidestOf ", r), widest, ok, slices.Max(all))
		} else {
			wantNoInt(t, fmt.Sprint("WidestOf ", r), widest, ok)
		}
	})
}

func TestCountTalking(t *testing.T) {
	for _, c := range []struct{ n, k, count int }{
		{2, 0, 1}, {2, 1, 2}, {2, 2, 0}, {3, 0, 3}, {3, 1, 9}, {3, 2, 3}, {3, 3, 0},
		{5, 0, 10}, {5, 1, 50}, {5, 2, 50}, {5, 3, 25}, {5, 4, 5}, {5, 5, 0},
		{12, 0, 66}, {12, 1, 792}, {12, 2, 2640}, {12, 6, 9504}, {12, 11, 12}, {12, 12, 0},
	} {
		got, ok := impl.CountTalking(c.n, c.k)
		wantInt(t, fmt.Sprint("CountTalking ", c.n, c.k), got, ok, c.count)
	}
}

func TestCountTalkingCountsAllRings(t *testing.T) {
	for n := 2; n <= 10; n++ {
		counts := make([]int, n+1)
		everyRing(n, func(r impl.Ring) {
			for a := range n {
				for _, distance := range plainDistances(r, a)[:a] {
					if distance > 0 {
						counts[len(r.Broken)]++
					}
				}
			}
		})
		for k, count := range counts {
			got, ok := impl.CountTalking(n, k)
			wantInt(t, fmt.Sprint("CountTalking ", n, k), got, ok, count)
		}
	}
}

func TestCountTalkingFails(t *testing.T) {
	for _, c := range [][2]int{
		{1, 0}, {1, 1}, {0, 0}, {-1, 0}, {13, 0}, {13, 13}, {2, 3}, {2, -1}, {5, 6}, {5, -1}, {12, 13}, {12, -1}, {1 << 32, 0},
		{math.MinInt, 0}, {math.MaxInt, 0}, {5, math.MinInt}, {5, math.MaxInt}, {math.MaxInt, math.MaxInt}, {math.MinInt, math.MinInt},
	} {
		got, ok := impl.CountTalking(c[0], c[1])
		wantNoInt(t, fmt.Sprint("CountTalking ", c), got, ok)
	}
}

func TestWaysOfOthersFail(t *testing.T) {
	try := func(r impl.Ring, a, b int) {
		name := fmt.Sprint(r, a, b)
		way, ok := impl.WayOf(r, a, b)
		wantNoInts(t, "WayOf "+name, way, ok)
		hops, ok := impl.HopsOf(r, a, b)
		wantNoInt(t, "HopsOf "+name, hops, ok)
		hops, ok = impl.DoubleHops(r, a, b)
		wantNoInt(t, "DoubleHops "+name, hops, ok)
	}
	for _, r := range edgeRings() {
		for _, s := range notNumbersOf(r) {
			try(r, s, 0)
			try(r, 0, s)
			try(r, s, s)
		}
	}
	for _, r := range notRings() {
		for a := -1; a <= 5; a++ {
			try(r, a, a)
			try(r, a, 1)
		}
		if pieces, ok := impl.PiecesOf(r); ok || len(pieces) > 0 {
			t.Errorf("PiecesOf %v: %v, %v", r, pieces, ok)
		}
		widest, ok := impl.WidestOf(r)
		wantNoInt(t, fmt.Sprint("WidestOf ", r), widest, ok)
		if talk, ok := impl.CanAllTalk(r); ok || talk {
			t.Errorf("CanAllTalk %v: %v, %v", r, talk, ok)
		}
	}
}

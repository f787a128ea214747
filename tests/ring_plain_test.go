package tests

import (
	"math"
	"slices"
	"testing"

	"loop.example/g01176/impl"
)

// exampleRing is the ring of the document's example.
var exampleRing = ring(5, 1, 3)

func ring(stations int, broken ...int) impl.Ring {
	return impl.Ring{Stations: stations, Broken: broken}
}

func sameRing(a, b impl.Ring) bool {
	return a.Stations == b.Stations && slices.Equal(a.Broken, b.Broken)
}

func wantRing(t *testing.T, name string, got impl.Ring, ok bool, want impl.Ring) {
	t.Helper()
	if !ok || !sameRing(got, want) {
		t.Errorf("%s: got %v, %v, want %v", name, got, ok, want)
	}
}

func wantNoRing(t *testing.T, name string, got impl.Ring, ok bool) {
	t.Helper()
	if ok || !sameRing(got, impl.Ring{}) {
		t.Errorf("%s: got %v, %v, want a failure", name, got, ok)
	}
}

// everyRing calls see with all rings of n stations.
func everyRing(n int, see func(r impl.Ring)) {
	everyBits(n, func(bits []int) {
		see(ring(n, placesOfOnes(bits)...))
	})
}

func placesOfOnes(bits []int) []int {
	var places []int
	for p, bit := range bits {
		if bit == 1 {
			places = append(places, p)
		}
	}
	return places
}

// everyRingUpTo calls see with all rings of 2 to n stations.
func everyRingUpTo(n int, see func(r impl.Ring)) {
	for stations := 2; stations <= n; stations++ {
		everyRing(stations, see)
	}
}

// edgeRings have the least and the greatest number of stations, and no, one, some or all links broken.
func edgeRings() []impl.Ring {
	all := []int{0, 1, 2, 3, 4, 5, 6, 7, 8, 9, 10, 11}
	return []impl.Ring{
		ring(2), ring(2, 0), ring(2, 1), ring(2, 0, 1),
		ring(3), ring(3, 2), ring(3, 0, 2), ring(3, 0, 1, 2),
		exampleRing, ring(5, 0, 4), ring(5, 2, 3), ring(7, 0, 1, 3, 6),
		ring(12), ring(12, 0), ring(12, 5), ring(12, 11), ring(12, 0, 11), ring(12, 0, 5, 6, 10),
		ring(12, all[1:]...), ring(12, all[:11]...), ring(12, all...),
	}
}

func notRings() []impl.Ring {
	return []impl.Ring{
		{}, ring(0, 0), ring(1), ring(1, 0), ring(13), ring(13, 0), ring(13, 12), ring(-1), ring(-5, 1), ring(1000000),
		ring(math.MinInt), ring(math.MaxInt), ring(math.MinInt, 0, 1), ring(math.MaxInt, 0, 1),
		ring(5, 5), ring(5, 1, 5), ring(5, -1), ring(5, -1, 3), ring(5, 3, 1), ring(5, 1, 1), ring(5, 1, 3, 3), ring(5, 1, 3, 2),
		ring(5, 0, 0), ring(5, 4, 4), ring(5, 0, 4, 1), ring(5, 0, 1, 2, 3, 4, 5), ring(5, 0, 1, 2, 3, 4, 0), ring(5, 0, 1, 2, 3, 4, 4),
		ring(5, math.MinInt), ring(5, math.MaxInt), ring(5, math.MinInt, math.MaxInt), ring(5, 2, 3, math.MinInt),
		ring(2, 2), ring(2, 0, 1, 2), ring(2, 1, 0), ring(12, 12), ring(12, 0, 12), ring(12, zeros(12)...), ring(12, zeros(5000)...),
		ring(5, 1<<32+1), ring(1<<32+5, 1),
	}
}

// plainLink is a link that is not broken; a double ring has a second one back beside it.
type plainLink struct{ from, to int }

// plainLinks writes down the links of a ring that lead somewhere, by their numbers.
func plainLinks(r impl.Ring) map[int]plainLink {
	links := map[int]plainLink{}
	for k := range r.Stations - 1 {
		links[k] = plainLink{k, k + 1}
	}
	links[r.Stations-1] = plainLink{r.Stations - 1, 0}
	for _, k := range r.Broken {
		delete(links, k)
	}
	return links
}

// plainStep goes from a station over a link forwards, or over a second one back.
func plainStep(links map[int]plainLink, s int, forwards bool) (int, bool) {
	for _, link := range links {
		if forwards && link.from == s {
			return link.to, true
		}
		if !forwards && link.to == s {
			return link.from, true
		}
	}
	return 0, false
}

// plainWay walks forwards from a to b.
func plainWay(r impl.Ring, a, b int) ([]int, bool) {
	links := plainLinks(r)
	way := []int{a}
	for way[len(way)-1] != b {
		next, ok := plainStep(links, way[len(way)-1], true)
		if !ok {
			return nil, false
		}
		way = append(way, next)
	}
	return way, true
}

// plainDistances searches breadth first from a, over links and second links; a station that is not found
// has -1.
func plainDistances(r impl.Ring, a int) []int {
	distances := slices.Repeat([]int{-1}, r.Stations)
	distances[a] = 0
	links := plainLinks(r)
	for found := []int{a}; len(found) > 0; found = found[1:] {
		for _, link := range links {
			for _, way := range []plainLink{link, {link.to, link.from}} {
				if way.from == found[0] && distances[way.to] < 0 {
					distances[way.to] = distances[way.from] + 1
					found = append(found, way.to)
				}
			}
		}
	}
	return distances
}

// plainWrap walks until one leaves s in the same direction as at first.
func plainWrap(r impl.Ring, s int) []int {
	links := plainLinks(r)
	var passed []int
	at, forwards, first := s, true, true
	for {
		next, ok := plainStep(links, at, forwards)
		if !ok {
			forwards = !forwards
			next, ok = plainStep(links, at, forwards)
		}
		if !ok {
			return []int{s}
		}
		if len(passed) == 0 {
			first = forwards
		} else if at == s && forwards == first {
			return passed
		}
		passed = append(passed, at)
		at = next
	}
}

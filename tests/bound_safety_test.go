package tests

import (
	"math"
	"sync"
	"testing"

	"loop.example/g01176/impl"
)

func timedFunctions() map[string]any {
	return map[string]any{
		"IsTimedRing":      impl.IsTimedRing,
		"TimedVisits":      impl.TimedVisits,
		"RotationsOf":      impl.RotationsOf,
		"GreatestRotation": impl.GreatestRotation,
		"RotationBound":    impl.RotationBound,
		"FreeShare":        impl.FreeShare,
		"FixedWithin":      impl.FixedWithin,
	}
}

func serverFunctions() map[string]any {
	return map[string]any{
		"IsServer":      impl.IsServer,
		"ServedBy":      impl.ServedBy,
		"BacklogServed": impl.BacklogServed,
		"DelayServed":   impl.DelayServed,
		"BacklogBound":  impl.BacklogBound,
		"DelayBound":    impl.DelayBound,
		"InRow":         impl.InRow,
		"BucketBehind":  impl.BucketBehind,
		"WorstTraffic":  impl.WorstTraffic,
	}
}

// timedPools have wishes for rings of 1, 3 and 12 stations, and lists that are none for them.
func timedPools() pools {
	p := pools{}
	for _, r := range append(edgeTimedRings(), notTimedRings()...) {
		p.add(r)
	}
	for _, n := range []int{1, 3, 12} {
		for _, wishes := range append(edgeWishesFor(n), notWishesFor(n)...) {
			p.add(wishes)
		}
	}
	p.add([][]int{{1, 2, 3}, {1}, {1, 2, 3, 4}}, [][]int{{1, 2, 3}, nil, {-1, math.MinInt}}, [][]int{{0}, {0, 0, 0}}, [][]int{{0, 0, 0}, {0}})
	p.add(-1, 0, 1, 2, 3, 11, 12, 19, 20, 21, 400, 99999, 100000, 100001, 1<<32, math.MinInt, math.MaxInt)
	return p
}

func serverPools() pools {
	p := pools{}
	for _, v := range append(edgeServers(), notServers()[:24]...) {
		p.add(v)
	}
	p.add(server(1, 21), server(3, -1), server(100, math.MaxInt), server(2, math.MinInt))
	for _, b := range append(edgeBuckets(), notBuckets()...) {
		p.add(b)
	}
	for _, traffic := range append(edgeTraffic(), notTraffic()...) {
		p.add(traffic)
	}
	p.add([]int{100}, []int{101}, []int{80}, []int{81}, []int{math.MaxInt, math.MaxInt}, []int{math.MinInt, math.MinInt})
	p.add(-1, 0, 1, 2, 39, 40, 41, 100, 1<<32, math.MinInt, math.MaxInt)
	return p
}

func TestTimedRingsAreSafe(t *testing.T) {
	p := timedPools()
	for name, function := range timedFunctions() {
		checkSafety(t, name, function, p)
	}
}

func TestServersAreSafe(t *testing.T) {
	p := serverPools()
	for name, function := range serverFunctions() {
		checkSafety(t, name, function, p)
	}
}

// Calls at the same time, of the same arguments, do not disturb each other; among them are servers that fall
// behind.
func TestBoundsAtTheSameTime(t *testing.T) {
	random := &numbers{269}
	var lists [][]int
	for range 20 {
		lists = append(lists, random.traffic())
	}
	wishes := append(roundsOf(10, alike(3, 200)), random.list(3, 201))
	var callers sync.WaitGroup
	for range 8 {
		callers.Go(func() {
			for _, traffic := range append(lists, []int{100}, []int{101}) {
				for _, v := range edgeServers() {
					checkServed(t, v, traffic)
				}
			}
			checkTimed(t, exampleTimedRing, wishes)
			checkFixedSent(t, exampleTimedRing, wishes)
		})
	}
	callers.Wait()
}

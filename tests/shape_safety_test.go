package tests

import (
	"math"
	"sync"
	"testing"

	"loop.example/g01176/impl"
)

func shapeFunctions() map[string]any {
	return map[string]any{
		"IsBucket":       impl.IsBucket,
		"IsTraffic":      impl.IsTraffic,
		"LevelsOf":       impl.LevelsOf,
		"KeepsBucket":    impl.KeepsBucket,
		"FirstBreach":    impl.FirstBreach,
		"ShapeOf":        impl.ShapeOf,
		"BacklogOfShape": impl.BacklogOfShape,
		"DelayOfShape":   impl.DelayOfShape,
		"LeakOf":         impl.LeakOf,
		"LeastDepth":     impl.LeastDepth,
		"LeastRate":      impl.LeastRate,
		"WindowsOf":      impl.WindowsOf,
		"AddTraffic":     impl.AddTraffic,
		"JoinBuckets":    impl.JoinBuckets,
		"KeepsBoth":      impl.KeepsBoth,
		"TrafficText":    impl.TrafficText,
	}
}

// shapePools have traffic that keeps all, some and none of the buckets, and lists that are none.
func shapePools() pools {
	p := pools{}
	for _, b := range append(edgeBuckets()[:8], notBuckets()[:12]...) {
		p.add(b)
	}
	p.add(bucket(1, 0), bucket(1, 1001), bucket(2, math.MinInt), bucket(100, math.MaxInt))
	for _, traffic := range append(edgeTraffic()[:22], notTraffic()...) {
		p.add(traffic)
	}
	p.add([]int{100}, []int{101}, append(zeros(39), 61), append(zeros(39), 62), []int{math.MaxInt, math.MaxInt}, []int{math.MinInt, math.MinInt})
	p.add(-1, 0, 1, 2, 5, 99, 100, 101, 1000, 1001, 1<<32, math.MinInt, math.MaxInt)
	return p
}

func TestShapersAreSafe(t *testing.T) {
	p := shapePools()
	for name, function := range shapeFunctions() {
		checkSafety(t, name, function, p)
	}
}

// Calls at the same time, of the same arguments, do not disturb each other.
func TestShapersAtTheSameTime(t *testing.T) {
	random := &numbers{193}
	var lists [][]int
	for range 20 {
		lists = append(lists, random.traffic())
	}
	var callers sync.WaitGroup
	for range 8 {
		callers.Go(func() {
			for _, traffic := range lists {
				for _, b := range []impl.Bucket{bucket(2, 5), bucket(100, 1000)} {
					checkLevels(t, b, traffic)
					checkShape(t, b, traffic)
					checkLeak(t, b.Rate, traffic)
				}
				checkWindows(t, traffic)
			}
		})
	}
	callers.Wait()
}

package tests

import (
	"fmt"
	"math"
	"slices"
	"testing"

	"loop.example/g01176/impl"
)

func TestIsTimedRing(t *testing.T) {
	random := &numbers{197}
	rings := edgeTimedRings()
	for range 500 {
		rings = append(rings, random.timedRing())
	}
	for _, r := range rings {
		if !impl.IsTimedRing(r) {
			t.Errorf("%v is no timed ring", r)
		}
	}
	for _, r := range notTimedRings() {
		if impl.IsTimedRing(r) {
			t.Errorf("%.200s is a timed ring", fmt.Sprint(r))
		}
	}
}

// A timed ring is fine as long as each of its numbers is within the limits, and all that is fixed within the
// Target.
func TestLimitsOfTimedRings(t *testing.T) {
	for n := range 16 {
		for _, target := range []int{-1, 0, 1, 2, 12, 13, 199, 200, 201, 202, 1000} {
			for _, walk := range []int{-1, 0, 1, 2, 16, 17, 19, 20, 21, 22} {
				for _, fixed := range []int{-1, 0, 1, 8, 180, 199, 200, 201} {
					r := timedRing(target, walk, zeros(n)...)
					if n > 0 {
						r.Fixed[n/2] = fixed
					}
					want := 1 <= n && n <= 12 && 1 <= target && target <= 200 && 1 <= walk && walk <= 20 && 0 <= fixed && fixed <= 200 && fixed+n*walk <= target
					if impl.IsTimedRing(r) != want {
						t.Errorf("IsTimedRing %v is not %v", r, want)
					}
				}
			}
		}
	}
}

// Of a station alone, all that is fixed may be just the Target, and one more is too much; of several ones each
// counts.
func TestAllFixedTogether(t *testing.T) {
	for _, r := range edgeTimedRings() {
		together := len(r.Fixed)*r.Walk + sumOf(r.Fixed)
		for target := max(1, together-2); target <= min(together+2, 200); target++ {
			other := timedRing(target, r.Walk, r.Fixed...)
			if got := impl.IsTimedRing(other); got != (target >= together) {
				t.Errorf("IsTimedRing %v is %v", other, got)
			}
		}
		for s := range r.Fixed {
			other := timedRing(r.Target, r.Walk, slices.Clone(r.Fixed)...)
			other.Fixed[s] += r.Target - together
			if !impl.IsTimedRing(other) {
				t.Errorf("%v is no timed ring", other)
			}
			other.Fixed[s]++
			if impl.IsTimedRing(other) {
				t.Errorf("%v is a timed ring", other)
			}
		}
	}
}

func wantShares(t *testing.T, r impl.TimedRing, share, rotation int) {
	t.Helper()
	got, ok := impl.FreeShare(r)
	wantInt(t, fmt.Sprint("FreeShare ", r), got, ok, share)
	got, ok = impl.RotationBound(r)
	wantInt(t, fmt.Sprint("RotationBound ", r), got, ok, rotation)
}

func TestFreeShares(t *testing.T) {
	wantShares(t, exampleTimedRing, 4, 20)
	wantShares(t, timedRing(1, 1, 0), 0, 2)
	wantShares(t, timedRing(2, 1, 0), 1, 4)
	wantShares(t, timedRing(2, 1, 1), 0, 4)
	wantShares(t, timedRing(200, 1, 0), 199, 400)
	wantShares(t, timedRing(200, 1, 199), 0, 400)
	wantShares(t, timedRing(200, 20, 180), 0, 400)
	wantShares(t, timedRing(200, 20, 0), 180, 400)
	wantShares(t, timedRing(199, 20, 100), 79, 398)
	wantShares(t, timedRing(6, 1, 1, 1, 1), 0, 12)
	wantShares(t, timedRing(50, 3, 5, 0, 7, 1), 25, 100)
	wantShares(t, timedRing(200, 16, zeros(12)...), 8, 400)
	wantShares(t, timedRing(200, 1, rising(12)...), 200-12-sumOf(rising(12)), 400)
	random := &numbers{199}
	for range 1000 {
		r := random.timedRing()
		share := r.Target
		for _, fixed := range r.Fixed {
			share -= fixed + r.Walk
		}
		wantShares(t, r, share, r.Target+r.Target)
	}
}

func TestTimedRingsFail(t *testing.T) {
	for _, r := range notTimedRings() {
		name := fmt.Sprintf("%.200s", fmt.Sprint(r))
		got, ok := impl.FreeShare(r)
		wantNoInt(t, "FreeShare "+name, got, ok)
		got, ok = impl.RotationBound(r)
		wantNoInt(t, "RotationBound "+name, got, ok)
		for _, s := range []int{-1, 0, 1, 2, 12} {
			for _, ticks := range []int{-1, 0, 20, 100000, 100001} {
				wantNoFixed(t, r, s, ticks)
			}
		}
	}
}

func wantFixed(t *testing.T, r impl.TimedRing, s, ticks, want int) {
	t.Helper()
	got, ok := impl.FixedWithin(r, s, ticks)
	wantInt(t, fmt.Sprint("FixedWithin ", r, ", ", s, ", ", ticks), got, ok, want)
}

func wantNoFixed(t *testing.T, r impl.TimedRing, s, ticks int) {
	t.Helper()
	got, ok := impl.FixedWithin(r, s, ticks)
	wantNoInt(t, fmt.Sprintf("FixedWithin %.200s, %d, %d", fmt.Sprint(r), s, ticks), got, ok)
}

func TestFixedWithinExamples(t *testing.T) {
	for s := range 3 {
		for ticks, want := range map[int]int{0: 1, 1: 1, 19: 1, 20: 2, 21: 2, 39: 2, 40: 3, 99999: 5000, 100000: 5001} {
			wantFixed(t, exampleTimedRing, s, ticks, want)
		}
	}
	r := timedRing(50, 3, 5, 0, 7, 1)
	for s, fixed := range r.Fixed {
		for ticks, visits := range map[int]int{0: 1, 99: 1, 100: 2, 199: 2, 200: 3, 1000: 11, 99999: 1000, 100000: 1001} {
			wantFixed(t, r, s, ticks, fixed*visits)
		}
	}
	wantFixed(t, timedRing(1, 1, 0), 0, 0, 0)
	wantFixed(t, timedRing(1, 1, 0), 0, 100000, 0)
	wantFixed(t, timedRing(2, 1, 1), 0, 100000, 25001)
	wantFixed(t, timedRing(200, 1, 199), 0, 0, 199)
	wantFixed(t, timedRing(200, 1, 199), 0, 399, 199)
	wantFixed(t, timedRing(200, 1, 199), 0, 400, 398)
	wantFixed(t, timedRing(200, 1, 199), 0, 100000, 49949)
	wantFixed(t, timedRing(200, 1, rising(12)...), 0, 5000, 13*rising(12)[0])
	wantFixed(t, timedRing(200, 1, rising(12)...), 11, 5000, 13*rising(12)[11])
}

// checkFixed counts the frames of a visit at once, and of one more for each time that the bound has gone by.
func checkFixed(t *testing.T, r impl.TimedRing, s, ticks int) {
	t.Helper()
	frames, next := 0, 0
	for tick := range ticks + 1 {
		if tick == next {
			frames += r.Fixed[s]
			next += r.Target + r.Target
		}
	}
	wantFixed(t, r, s, ticks, frames)
}

func TestFixedWithin(t *testing.T) {
	for _, r := range edgeTimedRings() {
		for s := range r.Fixed {
			for _, ticks := range []int{0, 1, r.Target, 2*r.Target - 1, 2 * r.Target, 2*r.Target + 1, 4*r.Target - 1, 4 * r.Target, 777} {
				checkFixed(t, r, s, ticks)
			}
		}
		checkFixed(t, r, 0, 100000)
		checkFixed(t, r, len(r.Fixed)-1, 99999)
	}
	random := &numbers{211}
	for range 500 {
		r := random.timedRing()
		checkFixed(t, r, random.below(len(r.Fixed)), random.below(5000))
	}
}

func TestFixedWithinFails(t *testing.T) {
	for _, r := range edgeTimedRings() {
		for _, ticks := range []int{0, 1, 20, 100000} {
			for _, s := range []int{-1, -2, len(r.Fixed), len(r.Fixed) + 1, 100, 1 << 32, math.MinInt, math.MaxInt} {
				wantNoFixed(t, r, s, ticks)
			}
		}
		for s := range r.Fixed {
			for _, ticks := range []int{-1, -20, -100000, 100001, 100002, 1 << 32, 1<<32 + 1, math.MinInt, math.MaxInt} {
				wantNoFixed(t, r, s, ticks)
			}
		}
		wantNoFixed(t, r, -1, 100001)
		wantNoFixed(t, r, 12, -1)
	}
}

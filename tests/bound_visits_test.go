package tests

import (
	"slices"
	"testing"

	"loop.example/g01176/impl"
)

func wantTimed(t *testing.T, r impl.TimedRing, wishes [][]int, rotations []int, visits ...[]int) {
	t.Helper()
	name := textOfWishes(r, wishes)
	got, ok := impl.TimedVisits(r, wishes)
	wantLists(t, "TimedVisits "+name, got, ok, visits)
	list, ok := impl.RotationsOf(r, wishes)
	wantInts(t, "RotationsOf "+name, list, ok, rotations)
	greatest, ok := impl.GreatestRotation(r, wishes)
	wantInt(t, "GreatestRotation "+name, greatest, ok, slices.Max(append([]int{0}, rotations...)))
}

func wantNoTimed(t *testing.T, r impl.TimedRing, wishes [][]int) {
	t.Helper()
	name := textOfWishes(r, wishes)
	visits, ok := impl.TimedVisits(r, wishes)
	if ok || len(visits) != 0 {
		t.Errorf("TimedVisits %s: got %v, %v, want a failure", name, visits, ok)
	}
	rotations, ok := impl.RotationsOf(r, wishes)
	wantNoInts(t, "RotationsOf "+name, rotations, ok)
	greatest, ok := impl.GreatestRotation(r, wishes)
	wantNoInt(t, "GreatestRotation "+name, greatest, ok)
}

func TestTimedExamples(t *testing.T) {
	r := exampleTimedRing
	wantTimed(t, r, nil, nil)
	wantTimed(t, r, [][]int{}, nil)
	wantTimed(t, r, [][]int{{10, 10, 10}}, nil, []int{0, 0, 7}, []int{9, 1, 0}, []int{11, 2, 0})
	wantTimed(t, r, roundsOf(2, alike(3, 10)), []int{13, 6, 10},
		[]int{0, 0, 7}, []int{9, 1, 0}, []int{11, 2, 0}, []int{13, 0, 0}, []int{15, 1, 4}, []int{21, 2, 0})
	wantTimed(t, r, [][]int{{0, 0, 0}}, nil, []int{0, 0, 0}, []int{2, 1, 0}, []int{4, 2, 0})
	wantTimed(t, r, [][]int{{0, 0, 0}, {5, 0, 0}}, []int{6, 10, 10},
		[]int{0, 0, 0}, []int{2, 1, 0}, []int{4, 2, 0}, []int{6, 0, 4}, []int{12, 1, 0}, []int{14, 2, 0})
	wantTimed(t, r, [][]int{{3, 3, 3}}, nil, []int{0, 0, 3}, []int{5, 1, 3}, []int{10, 2, 0})
	wantTimed(t, r, [][]int{{6, 200, 0}}, nil, []int{0, 0, 6}, []int{8, 1, 0}, []int{10, 2, 0})
	wantTimed(t, r, [][]int{{5, 200, 0}}, nil, []int{0, 0, 5}, []int{7, 1, 1}, []int{10, 2, 0})
	wantTimed(t, r, [][]int{{0, 0, 200}}, nil, []int{0, 0, 0}, []int{2, 1, 0}, []int{4, 2, 5}) // 5 ticks since the tick -1

	one := timedRing(1, 1, 0)
	wantTimed(t, one, [][]int{{200}}, nil, []int{0, 0, 0})
	wantTimed(t, one, [][]int{{200}, {0}, {1}}, []int{1, 1}, []int{0, 0, 0}, []int{1, 0, 0}, []int{2, 0, 0})
	one = timedRing(5, 1, 0)
	wantTimed(t, one, roundsOf(4, []int{9}), []int{5, 1, 5}, []int{0, 0, 4}, []int{5, 0, 0}, []int{6, 0, 4}, []int{11, 0, 0})
	one = timedRing(200, 20, 180) // nothing is left at the second visit, as the first one took the Target alone
	wantTimed(t, one, [][]int{{200}, {200}}, []int{380}, []int{0, 0, 180}, []int{380, 0, 0})
	wantTimed(t, one, [][]int{{0}, {200}, {0}}, []int{200, 200}, []int{0, 0, 0}, []int{200, 0, 0}, []int{400, 0, 0})

	wantTimed(t, timedRing(6, 2, 1, 0), roundsOf(2, []int{200, 200}), []int{7, 5}, []int{0, 0, 2}, []int{5, 1, 0}, []int{7, 0, 0}, []int{10, 1, 1})
	wantTimed(t, timedRing(10, 1, 0, 8), roundsOf(2, []int{200, 200}), []int{18, 10}, []int{0, 0, 8}, []int{9, 1, 0}, []int{18, 0, 0}, []int{19, 1, 0})
	wantTimed(t, timedRing(2, 1, 0, 0), roundsOf(2, []int{200, 200}), []int{2, 2}, []int{0, 0, 0}, []int{1, 1, 0}, []int{2, 0, 0}, []int{3, 1, 0})
}

// checkTimed compares with the plain walk, and wants no rotation to be more than twice the Target.
func checkTimed(t *testing.T, r impl.TimedRing, wishes [][]int) {
	t.Helper()
	w := walkTimed(r, wishes)
	wantTimed(t, r, wishes, w.rotations, w.visits...)
	name := textOfWishes(r, wishes)
	visits, _ := impl.TimedVisits(r, wishes)
	rotations, _ := impl.RotationsOf(r, wishes)
	if len(visits) != len(wishes)*len(r.Fixed) || len(rotations) != max(0, len(wishes)-1)*len(r.Fixed) {
		t.Errorf("%s: %d visits, %d rotations", name, len(visits), len(rotations))
		return
	}
	for i, rotation := range rotations {
		later := i + len(r.Fixed)
		if visits[later][1] != visits[i][1] || visits[later][0]-visits[i][0] != rotation {
			t.Errorf("%s: the visits %v and %v, and the rotation %d", name, visits[i], visits[later], rotation)
		}
	}
	bound, ok := impl.RotationBound(r)
	wantInt(t, "RotationBound "+name, bound, ok, 2*r.Target)
	greatest, _ := impl.GreatestRotation(r, wishes)
	if greatest > bound || len(w.since) > 0 && slices.Max(w.since) > bound {
		t.Errorf("%s: the greatest rotation is %d, and the first ones are %v", name, greatest, w.since)
	}
	checkFree(t, r, wishes, visits, w)
}

// checkFree wants free frames to keep to the wishes and to what is left of the target: all of the one or all of
// the other are sent.
func checkFree(t *testing.T, r impl.TimedRing, wishes, visits [][]int, w plainTimed) {
	t.Helper()
	for i, visit := range visits {
		s, free := visit[1], visit[2]
		wish, left := wishes[i/len(r.Fixed)][i%len(r.Fixed)], max(0, r.Target-w.since[i])
		if s != i%len(r.Fixed) || free > wish || free > left || free != wish && free != left {
			t.Errorf("%s: the visit %v, where %d is wished and %d is left", textOfWishes(r, wishes), visit, wish, left)
		}
	}
}

// checkFixedSent wants as many fixed frames as are told from each visit on: of the visits that come within so
// many ticks, up to each later visit, with it and just ahead of it.
func checkFixedSent(t *testing.T, r impl.TimedRing, wishes [][]int) {
	t.Helper()
	w := walkTimed(r, wishes)
	n := len(r.Fixed)
	for i, visit := range w.visits {
		sent := w.fixed[i]
		for later := i + n; later < len(w.visits); later += n {
			ticks := w.visits[later][0] - visit[0]
			wantFixedAtMost(t, r, visit[1], ticks-1, sent)
			sent += w.fixed[later]
			wantFixedAtMost(t, r, visit[1], ticks, sent)
		}
	}
}

func wantFixedAtMost(t *testing.T, r impl.TimedRing, s, ticks, sent int) {
	t.Helper()
	if got, ok := impl.FixedWithin(r, s, ticks); !ok || got > sent {
		t.Errorf("FixedWithin %v, %d, %d: got %d, %v, but it sends %d", r, s, ticks, got, ok, sent)
	}
}

// everyTimedRing calls see with all timed rings up to so many stations, up to a target and a walk.
func everyTimedRing(stations, target, walk int, see func(r impl.TimedRing)) {
	for n := 1; n <= stations; n++ {
		everyTraffic(n, target, func(fixed []int) {
			for w := 1; w <= walk; w++ {
				for all := max(1, sumOf(fixed)+n*w); all <= target; all++ {
					see(timedRing(all, w, fixed...))
				}
			}
		})
	}
}

// everyWishes calls see with all wishes of so many rounds, of nothing, of some and of more than there may be.
func everyWishes(stations, rounds int, see func(wishes [][]int)) {
	everyTraffic(stations*rounds, 3, func(choice []int) {
		var wishes [][]int
		for row := range slices.Chunk(choice, stations) {
			wanted := make([]int, stations)
			for s := range wanted {
				wanted[s] = []int{0, 1, 3, 200}[row[s]]
			}
			wishes = append(wishes, wanted)
		}
		see(wishes)
	})
}

func TestAllSmallTimedRings(t *testing.T) {
	everyTimedRing(2, 6, 2, func(r impl.TimedRing) {
		for rounds := range 6 / len(r.Fixed) {
			everyWishes(len(r.Fixed), rounds, func(wishes [][]int) {
				checkTimed(t, r, wishes)
				checkFixedSent(t, r, wishes)
			})
		}
	})
	everyTimedRing(3, 6, 1, func(r impl.TimedRing) {
		if len(r.Fixed) == 3 {
			everyWishes(3, 2, func(wishes [][]int) { checkTimed(t, r, wishes) })
		}
	})
}

func TestTimedRings(t *testing.T) {
	for _, r := range edgeTimedRings() {
		for _, wishes := range edgeWishesFor(len(r.Fixed)) {
			checkTimed(t, r, wishes)
			checkFixedSent(t, r, wishes)
		}
	}
	random := &numbers{223}
	for i := range 2000 {
		r := random.timedRing()
		wishes := random.wishes(len(r.Fixed))
		checkTimed(t, r, wishes)
		if i%5 == 0 {
			checkFixedSent(t, r, wishes)
		}
	}
}

// A rotation may be all but twice the Target: the first station sends all that is left of it, and the last one
// all that is fixed.
func TestGreatestRotations(t *testing.T) {
	for n := 2; n <= 12; n++ {
		for _, target := range []int{n, n + 1, 2 * n, 50, 200} {
			r := timedRing(target, 1, zeros(n)...)
			r.Fixed[n-1] = target - n
			wishes := roundsOf(20, alike(n, 200))
			greatest, ok := impl.GreatestRotation(r, wishes)
			wantInt(t, "GreatestRotation "+textOfWishes(r, wishes), greatest, ok, 2*target-n)
		}
	}
}

func TestTimedVisitsFail(t *testing.T) {
	for _, r := range edgeTimedRings() {
		for _, wishes := range notWishesFor(len(r.Fixed)) {
			wantNoTimed(t, r, wishes)
		}
	}
	for _, r := range notTimedRings() {
		for n := range 4 {
			wantNoTimed(t, r, roundsOf(n, zeros(min(len(r.Fixed), 20))))
		}
		for _, wishes := range edgeWishesFor(max(1, min(len(r.Fixed), 20))) {
			wantNoTimed(t, r, wishes)
		}
	}
}

// Wishes are fine as long as their length, those of their rows and their numbers are within the limits.
func TestLimitsOfWishes(t *testing.T) {
	r := exampleTimedRing
	for rounds := range 24 {
		for _, stations := range []int{0, 1, 2, 3, 4, 12} {
			for _, wish := range []int{-200, -1, 0, 1, 199, 200, 201, 1000} {
				wishes := roundsOf(rounds, zeros(3))
				if rounds > 0 {
					wishes[rounds/2] = alike(stations, wish)
				}
				if rounds <= 20 && (rounds == 0 || stations == 3 && 0 <= wish && wish <= 200) {
					checkTimed(t, r, wishes)
				} else {
					wantNoTimed(t, r, wishes)
				}
			}
		}
	}
}

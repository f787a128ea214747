package tests

import (
	"math"
	"slices"
	"testing"

	"loop.example/g01176/impl"
)

// Damage in one to three places of n bytes with a check is always found, and in four places exactly the
// blind lists are not.
func TestDamageIsFound(t *testing.T) {
	random := &numbers{8}
	for n := 1; n <= 6; n++ {
		list := random.list(n, 256)
		list = append(list, slowCheck(list))
		for flips := 1; flips <= 4; flips++ {
			first, count := blindIn(list, flips)
			gotCount, ok := impl.CountBlind(n, flips)
			wantInt(t, "CountBlind", gotCount, ok, count)
			gotFirst, ok := impl.FirstBlind(n, flips)
			if flips < 4 {
				wantInt(t, "blind lists", count, true, 0)
				wantNoInts(t, "FirstBlind", gotFirst, ok)
			} else {
				wantInts(t, "FirstBlind", gotFirst, ok, first)
			}
		}
	}
}

// blindIn tries all lists of places, and returns the first one that HasCheck does not find, and how many.
func blindIn(list []int, flips int) ([]int, int) {
	var first []int
	count := 0
	everyPlaces(8*len(list), flips, func(places []int) {
		damaged := slices.Clone(list)
		for _, p := range places {
			damaged[p/8] ^= 128 >> (p % 8)
		}
		if checked, ok := impl.HasCheck(damaged); checked || !ok {
			count++
			if first == nil {
				first = slices.Clone(places)
			}
		}
	})
	return first, count
}

// These were counted beside the program.
func TestBlindLists(t *testing.T) {
	counts := []int{16, 80, 284, 727, 1545, 2937}
	firsts := [][]int{{0, 1, 6, 9}, {0, 1, 6, 9}, {0, 1, 6, 9}, {0, 1, 6, 9}, {0, 1, 6, 9}, {0, 1, 3, 53}}
	for i := range counts {
		count, ok := impl.CountBlind(i+1, 4)
		wantInt(t, "CountBlind", count, ok, counts[i])
		first, ok := impl.FirstBlind(i+1, 4)
		wantInts(t, "FirstBlind", first, ok, firsts[i])
	}
}

func TestBlindListsFail(t *testing.T) {
	for _, bad := range []int{math.MinInt, -1, 0, 7, 8, 100, math.MaxInt} {
		first, ok := impl.FirstBlind(bad, 4)
		wantNoInts(t, "FirstBlind", first, ok)
		count, ok := impl.CountBlind(bad, 4)
		wantNoInt(t, "CountBlind", count, ok)
	}
	for _, bad := range []int{math.MinInt, -1, 0, 5, 6, 100, math.MaxInt} {
		first, ok := impl.FirstBlind(2, bad)
		wantNoInts(t, "FirstBlind", first, ok)
		count, ok := impl.CountBlind(2, bad)
		wantNoInt(t, "CountBlind", count, ok)
	}
}

// A frame that is damaged in one to three places is refused; twelve data make fifteen bytes.
func TestDamagedFramesAreRefused(t *testing.T) {
	random := &numbers{9}
	for _, n := range []int{0, 1, 4} {
		checkDamagedFrame(t, impl.Frame{From: 1, To: 2, Priority: 3, Data: random.list(n, 256)}, 3)
	}
	checkDamagedFrame(t, impl.Frame{From: 8, To: 3, Priority: 5, Data: random.list(12, 256)}, 2)
}

func checkDamagedFrame(t *testing.T, f impl.Frame, most int) {
	t.Helper()
	list, ok := impl.BytesOf(f)
	if !ok {
		t.Fatalf("BytesOf %v fails", f)
	}
	for flips := 1; flips <= most; flips++ {
		everyPlaces(8*len(list), flips, func(places []int) {
			damaged, ok := impl.FlipBits(list, places)
			if !ok {
				t.Fatalf("FlipBits at %v fails", places)
			}
			got, ok := impl.FrameOf(damaged)
			wantNoFrame(t, "FrameOf", got, ok)
		})
	}
}

// The powers of x come again behind 127 places, so that two flips in longer lists may cancel out.
func TestTwoFlipsFarApartAreBlind(t *testing.T) {
	f := impl.Frame{From: 1, To: 2, Priority: 3, Data: zeros(13)}
	list, _ := impl.BytesOf(f)
	damaged, ok := impl.FlipBits(list, []int{0, 127})
	if !ok {
		t.Fatal("FlipBits fails")
	}
	got, ok := impl.FrameOf(damaged)
	wantFrame(t, "FrameOf", got, ok, impl.Frame{From: 9, To: 2, Priority: 3, Data: zeros(13)})
}

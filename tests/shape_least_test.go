package tests

import (
	"fmt"
	"testing"

	"loop.example/g01176/impl"
)

func wantLeastDepth(t *testing.T, rate int, traffic []int, want int) {
	t.Helper()
	got, ok := impl.LeastDepth(rate, traffic)
	wantInt(t, fmt.Sprint("LeastDepth ", rate, ", ", traffic), got, ok, want)
}

func wantNoLeastDepth(t *testing.T, rate int, traffic []int) {
	t.Helper()
	got, ok := impl.LeastDepth(rate, traffic)
	wantNoInt(t, fmt.Sprintf("LeastDepth %d, %.200s", rate, fmt.Sprint(traffic)), got, ok)
}

func TestLeastDepthExamples(t *testing.T) {
	wantLeastDepth(t, 2, shapeExample, 6)
	for _, rate := range []int{1, 2, 50, 100} {
		wantLeastDepth(t, rate, nil, 1)
		wantLeastDepth(t, rate, []int{}, 1)
		wantLeastDepth(t, rate, []int{0}, 1)
		wantLeastDepth(t, rate, zeros(40), 1)
		wantLeastDepth(t, rate, ones(40), 1)
		wantLeastDepth(t, rate, []int{2}, 2)
		wantLeastDepth(t, rate, []int{999}, 999)
		wantLeastDepth(t, rate, []int{1000}, 1000)
		wantLeastDepth(t, rate, append(zeros(39), 1000), 1000)
		wantLeastDepth(t, rate, []int{1000, rate}, 1000)
		wantNoLeastDepth(t, rate, []int{1000, rate + 1})
		wantLeastDepth(t, rate, []int{0, 600, 0, 400 + 2*rate, 0}, 1000)
		wantNoLeastDepth(t, rate, []int{0, 600, 0, 401 + 2*rate, 0})
	}
	wantLeastDepth(t, 2, []int{501, 501}, 1000)
	wantNoLeastDepth(t, 1, []int{501, 501})
	wantLeastDepth(t, 1, append([]int{500}, append(zeros(38), 539)...), 1000) // the stretch of all ticks is the greatest
	wantNoLeastDepth(t, 1, append([]int{500}, append(zeros(38), 540)...))
	wantNoLeastDepth(t, 100, alike(40, 1000))
	wantLeastDepth(t, 1, []int{3, 0, 0, 3}, 3)
	wantLeastDepth(t, 1, []int{3, 0, 0, 4}, 4)
	wantLeastDepth(t, 1, []int{3, 0, 0, 9, 9}, 17)
	wantLeastDepth(t, 3, []int{0, 5, 5, 0}, 7)
	wantLeastDepth(t, 2, []int{1, 1, 1}, 1)
	wantLeastDepth(t, 1, []int{2, 2, 2}, 4)
}

func wantLeastRate(t *testing.T, depth int, traffic []int, want int) {
	t.Helper()
	got, ok := impl.LeastRate(depth, traffic)
	wantInt(t, fmt.Sprint("LeastRate ", depth, ", ", traffic), got, ok, want)
}

func wantNoLeastRate(t *testing.T, depth int, traffic []int) {
	t.Helper()
	got, ok := impl.LeastRate(depth, traffic)
	wantNoInt(t, fmt.Sprintf("LeastRate %d, %.200s", depth, fmt.Sprint(traffic)), got, ok)
}

func TestLeastRateExamples(t *testing.T) {
	for depth, rate := range map[int]int{4: 4, 5: 3, 6: 2, 7: 1, 8: 1, 1000: 1} {
		wantLeastRate(t, depth, shapeExample, rate)
	}
	for _, depth := range []int{1, 2, 3} {
		wantNoLeastRate(t, depth, shapeExample) // the first amount alone is greater
	}
	for _, depth := range []int{1, 2, 999, 1000} {
		wantLeastRate(t, depth, nil, 1)
		wantLeastRate(t, depth, []int{}, 1)
		wantLeastRate(t, depth, zeros(40), 1)
		wantLeastRate(t, depth, ones(40), 1)
		wantLeastRate(t, depth, []int{depth}, 1)
		wantLeastRate(t, depth, append(zeros(39), depth), 1)
	}
	for _, depth := range []int{1, 500, 999} {
		wantNoLeastRate(t, depth, []int{depth + 1})
		wantNoLeastRate(t, depth, append(zeros(39), depth+1))
	}
	wantLeastRate(t, 2, []int{2, 2, 2}, 2)
	wantLeastRate(t, 3, []int{2, 2, 2}, 2) // 1.5, rounded up
	wantLeastRate(t, 4, []int{2, 2, 2}, 1)
	wantLeastRate(t, 1000, []int{1000, 100}, 100)
	wantNoLeastRate(t, 1000, []int{1000, 101})
	wantLeastRate(t, 1000, []int{1000, 0, 199}, 100)
	wantLeastRate(t, 1000, []int{1000, 0, 200}, 100)
	wantNoLeastRate(t, 1000, []int{1000, 0, 201})
	wantLeastRate(t, 100, alike(40, 100), 100)
	wantNoLeastRate(t, 101, alike(40, 101))
	wantLeastRate(t, 1000, append([]int{1000}, append(zeros(38), 39)...), 1)
	wantLeastRate(t, 1000, append([]int{1000}, append(zeros(38), 40)...), 2)
}

// checkLeast searches all depths and all rates for the first one with which the traffic keeps the bucket.
func checkLeast(t *testing.T, rate, depth int, traffic []int) {
	t.Helper()
	d := 1
	for d <= impl.MaxAmount && !plainKeeps(bucket(rate, d), traffic) {
		d++
	}
	if d <= impl.MaxAmount {
		wantLeastDepth(t, rate, traffic, d)
	} else {
		wantNoLeastDepth(t, rate, traffic)
	}
	r := 1
	for r <= impl.MaxRate && !plainKeeps(bucket(r, depth), traffic) {
		r++
	}
	if r <= impl.MaxRate {
		wantLeastRate(t, depth, traffic, r)
	} else {
		wantNoLeastRate(t, depth, traffic)
	}
}

func TestLeastOfAllSmallTraffic(t *testing.T) {
	everyBucket(4, 6, func(b impl.Bucket) {
		for n := range 5 {
			everyTraffic(n, 4, func(traffic []int) { checkLeast(t, b.Rate, b.Depth, traffic) })
		}
	})
}

func TestLeast(t *testing.T) {
	random := &numbers{151}
	for _, b := range edgeBuckets() {
		for _, traffic := range edgeTraffic() {
			checkLeast(t, b.Rate, b.Depth, traffic)
		}
	}
	for range 300 {
		b := random.bucket()
		checkLeast(t, b.Rate, b.Depth, random.traffic())
		checkLeast(t, b.Rate, b.Depth, random.keeping(b, impl.MaxTicks))
	}
}

func TestLeastFail(t *testing.T) {
	for _, traffic := range append(edgeTraffic()[:8], shapeExample, []int{1001}) {
		for _, rate := range notRates() {
			wantNoLeastDepth(t, rate, traffic)
		}
		for _, depth := range notDepths() {
			wantNoLeastRate(t, depth, traffic)
		}
	}
	for _, traffic := range notTraffic() {
		for _, n := range []int{1, 2, 100, 1000, 0, 1001} {
			wantNoLeastDepth(t, n, traffic)
			wantNoLeastRate(t, n, traffic)
		}
	}
}

func wantWindows(t *testing.T, traffic []int, want ...int) {
	t.Helper()
	got, ok := impl.WindowsOf(traffic)
	wantInts(t, fmt.Sprint("WindowsOf ", traffic), got, ok, want)
}

func TestWindowExamples(t *testing.T) {
	wantWindows(t, nil)
	wantWindows(t, []int{})
	wantWindows(t, shapeExample, 4, 8, 8)
	wantWindows(t, []int{0}, 0)
	wantWindows(t, []int{1000}, 1000)
	wantWindows(t, zeros(40), zeros(40)...)
	wantWindows(t, ones(40), addedTo(1, rising(40))...)
	wantWindows(t, alike(40, 1000), multiplesOf(1000, 1, 40)...)
	wantWindows(t, []int{0, 5, 0, 6, 1}, 6, 7, 11, 12, 12)
	wantWindows(t, []int{5, 0, 0, 3, 3}, 5, 6, 6, 8, 11)
	wantWindows(t, []int{1, 2, 3, 4}, 4, 7, 9, 10)
	wantWindows(t, []int{4, 3, 2, 1}, 4, 7, 9, 10)
}

// checkWindows compares with all stretches.
func checkWindows(t *testing.T, traffic []int) {
	t.Helper()
	want := []int{}
	for i := range traffic {
		want = append(want, plainWindow(i+1, traffic))
	}
	wantWindows(t, traffic, want...)
}

func TestWindows(t *testing.T) {
	for n := range 6 {
		everyTraffic(n, 4, func(traffic []int) { checkWindows(t, traffic) })
	}
	for _, traffic := range edgeTraffic() {
		checkWindows(t, traffic)
	}
	random := &numbers{157}
	for range 200 {
		checkWindows(t, random.traffic())
	}
}

// Traffic keeps a bucket exactly if no window has more than the depth and what the rate puts to it meanwhile.
func TestWindowsTellWhatIsKept(t *testing.T) {
	random := &numbers{163}
	for range 1000 {
		b := random.bucket()
		for _, traffic := range [][]int{random.traffic(), random.keeping(b, 40)} {
			windows, ok := impl.WindowsOf(traffic)
			want := ok
			for i, sum := range windows {
				want = want && sum <= b.Depth+b.Rate*i
			}
			keeps, ok := impl.KeepsBucket(b, traffic)
			wantBool(t, "KeepsBucket "+textOfTraffic(b, traffic), keeps, ok, want)
		}
	}
}

func TestWindowsFail(t *testing.T) {
	for _, traffic := range notTraffic() {
		got, ok := impl.WindowsOf(traffic)
		wantNoInts(t, fmt.Sprintf("WindowsOf %.200s", fmt.Sprint(traffic)), got, ok)
	}
}

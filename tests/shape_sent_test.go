package tests

import (
	"fmt"
	"slices"
	"testing"

	"loop.example/g01176/impl"
)

func wantShape(t *testing.T, b impl.Bucket, traffic []int, backlog, delay int, want ...int) {
	t.Helper()
	name := textOfTraffic(b, traffic)
	shape, ok := impl.ShapeOf(b, traffic)
	wantInts(t, "ShapeOf "+name, shape, ok, want)
	got, ok := impl.BacklogOfShape(b, traffic)
	wantInt(t, "BacklogOfShape "+name, got, ok, backlog)
	got, ok = impl.DelayOfShape(b, traffic)
	wantInt(t, "DelayOfShape "+name, got, ok, delay)
}

func wantNoShape(t *testing.T, b impl.Bucket, traffic []int) {
	t.Helper()
	name := textOfTraffic(b, traffic)
	shape, ok := impl.ShapeOf(b, traffic)
	wantNoInts(t, "ShapeOf "+name, shape, ok)
	got, ok := impl.BacklogOfShape(b, traffic)
	wantNoInt(t, "BacklogOfShape "+name, got, ok)
	got, ok = impl.DelayOfShape(b, traffic)
	wantNoInt(t, "DelayOfShape "+name, got, ok)
}

func TestShapeExamples(t *testing.T) {
	b := bucket(2, 5)
	wantShape(t, b, shapeExample, 1, 1, 4, 3, 1)
	wantShape(t, b, shapeExample[:2], 1, 1, 4, 3, 1) // the last part of the last amount is sent behind the end
	wantShape(t, b, nil, 0, 0)
	wantShape(t, b, []int{}, 0, 0)
	wantShape(t, b, []int{0}, 0, 0, 0)
	wantShape(t, b, zeros(40), 0, 0, zeros(40)...)
	wantShape(t, b, []int{5}, 0, 0, 5)
	wantShape(t, b, []int{6}, 1, 1, 5, 1)
	wantShape(t, b, []int{0, 0, 6}, 1, 1, 0, 0, 5, 1)
	wantShape(t, b, []int{6, 0, 0, 0, 7}, 2, 1, 5, 1, 0, 0, 5, 2)
	wantShape(t, b, []int{5, 2, 2}, 0, 0, 5, 2, 2)
	wantShape(t, b, []int{5, 3, 2, 2}, 1, 1, 5, 2, 2, 2, 1)    // never 0 until the end
	wantShape(t, b, []int{10, 0, 1, 0}, 5, 3, 5, 2, 2, 2)      // the first one waits for 3 ticks, the other one for 1
	wantShape(t, b, []int{6, 4, 0, 4}, 3, 2, 5, 2, 2, 2, 2, 1) // 5, 1 of 6 and 1 of 4, 2, 1 of 4 and 1 of the last one, 2, 1
	wantShape(t, b, []int{0, 9, 0, 0, 0}, 4, 2, 0, 5, 2, 2, 0) // it has as many ticks as the traffic
	wantShape(t, b, []int{0, 9, 0, 1, 0}, 4, 2, 0, 5, 2, 2, 1) // just one part is left, and sent at the last tick
	wantShape(t, bucket(1, 1), alike(3, 2), 3, 3, 1, 1, 1, 1, 1, 1)
	wantShape(t, bucket(1, 1), append(ones(39), 2), 1, 1, ones(41)...)
	wantShape(t, bucket(100, 1), []int{3, 0, 1}, 2, 2, 1, 1, 1, 1) // a level is never more than the depth
	wantShape(t, bucket(5, 4), []int{9, 0, 0, 9}, 5, 2, 4, 4, 1, 4, 4, 1)
	wantShape(t, bucket(100, 1000), []int{1000, 1000}, 900, 9, append([]int{1000}, alike(10, 100)...)...)
	wantShape(t, bucket(100, 1000), []int{1000, 1}, 0, 0, 1000, 1)
	wantShape(t, bucket(1, 1000), []int{1000, 3}, 2, 2, 1000, 1, 1, 1)
	wantShape(t, bucket(1, 1000), append(zeros(39), 1000), 0, 0, append(zeros(39), 1000)...)
}

// Shapes of 100 ticks are fine, and with one part more they have one tick too many.
func TestLongestShapes(t *testing.T) {
	wantShape(t, bucket(1, 1), []int{100}, 99, 99, ones(100)...)
	wantNoShape(t, bucket(1, 1), []int{101})
	wantShape(t, bucket(10, 10), []int{1000}, 990, 99, alike(100, 10)...)
	wantNoShape(t, bucket(10, 10), []int{1000, 1})
	wantNoShape(t, bucket(10, 9), []int{1000})
	wantShape(t, bucket(1, 901), []int{1000}, 99, 99, append([]int{901}, ones(99)...)...)
	wantNoShape(t, bucket(1, 900), []int{1000})
	wantNoShape(t, bucket(1, 901), []int{1000, 1})
	wantShape(t, bucket(100, 1), append(zeros(39), 61), 60, 60, append(zeros(39), ones(61)...)...)
	wantNoShape(t, bucket(100, 1), append(zeros(39), 62))
	wantShape(t, bucket(1, 1), append(ones(39), 61), 60, 60, ones(100)...)
	wantNoShape(t, bucket(1, 1), append(ones(39), 62))
	wantShape(t, bucket(99, 199), alike(10, 1000), 8910, 90, append([]int{199}, alike(99, 99)...)...)
	wantNoShape(t, bucket(99, 198), alike(10, 1000))
	wantNoShape(t, bucket(100, 1000), alike(40, 1000))
	wantNoShape(t, bucket(1, 1), alike(40, 1000))
	for n := 90; n <= 110; n++ {
		for _, b := range []impl.Bucket{bucket(1, 1), bucket(1, 3), bucket(2, 1), bucket(2, 3)} {
			for _, amount := range []int{n, 2*n - 1, 2 * n, 2*n + 1} {
				checkShape(t, b, []int{amount})
				checkShape(t, b, []int{0, amount, 0})
			}
		}
	}
}

// checkShape compares with the plain walk in which each part is followed.
func checkShape(t *testing.T, b impl.Bucket, traffic []int) {
	t.Helper()
	w := plainShape(b, traffic)
	if len(w.sent) > mostShaped {
		wantNoShape(t, b, traffic)
		return
	}
	wantShape(t, b, traffic, w.backlog, w.delay, w.sent...)
	shape, _ := impl.ShapeOf(b, traffic)
	checkShaped(t, b, traffic, shape)
}

// checkShaped wants a shape to keep the bucket, to have the sum of the traffic, to send nothing ahead of its
// coming, and to stay as it is; traffic that keeps the bucket is its own shape.
func checkShaped(t *testing.T, b impl.Bucket, traffic, shape []int) {
	t.Helper()
	name := textOfTraffic(b, traffic)
	if breaches := plainBreaches(b, shape); len(breaches) > 0 {
		t.Errorf("ShapeOf %s: %v breaks the bucket: %v", name, shape, breaches)
	}
	if sumOf(shape) != sumOf(traffic) || len(shape) < len(traffic) || len(shape) > len(traffic) && shape[len(shape)-1] == 0 {
		t.Errorf("ShapeOf %s: %v has another sum, or too few or too many ticks", name, shape)
	}
	for tick := range shape {
		if sumOf(shape[:tick+1]) > sumOf(traffic[:min(tick+1, len(traffic))]) {
			t.Errorf("ShapeOf %s: %v sends ahead at %d", name, shape, tick)
		}
	}
	if plainKeeps(b, traffic) && !slices.Equal(shape, traffic) {
		t.Errorf("ShapeOf %s: %v, though the traffic keeps the bucket", name, shape)
	}
	if len(shape) <= impl.MaxTicks {
		wantShape(t, b, shape, 0, 0, shape...)
	}
}

func TestShapesOfAllSmallTraffic(t *testing.T) {
	everyBucket(3, 4, func(b impl.Bucket) {
		for n := range 5 {
			everyTraffic(n, 5, func(traffic []int) { checkShape(t, b, traffic) })
		}
	})
}

func TestShapes(t *testing.T) {
	random := &numbers{139}
	for _, b := range edgeBuckets() {
		for _, traffic := range edgeTraffic() {
			checkShape(t, b, traffic)
		}
	}
	for range 1500 {
		checkShape(t, random.bucket(), random.traffic())
		b := random.bucket()
		checkShape(t, b, random.keeping(b, random.below(impl.MaxTicks+1)))
	}
}

// everyKeeping calls see with all lists of up to so many ticks that keep a bucket and send nothing ahead of
// its coming.
func everyKeeping(b impl.Bucket, traffic []int, ticks int, see func(list []int)) {
	list := []int{}
	var extend func()
	extend = func() {
		see(list)
		if len(list) == ticks {
			return
		}
		for amount := 0; ; amount++ {
			list = append(list, amount)
			ahead := sumOf(list) > sumOf(traffic[:min(len(list), len(traffic))])
			if ahead || len(plainBreaches(b, list)) > 0 {
				list = list[:len(list)-1]
				return
			}
			extend()
			list = list[:len(list)-1]
		}
	}
	extend()
}

// checkEarliest wants no list that keeps the bucket and sends nothing ahead to have sent more than the shape up
// to any tick.
func checkEarliest(t *testing.T, b impl.Bucket, traffic []int) {
	t.Helper()
	shape, ok := impl.ShapeOf(b, traffic)
	if !ok {
		t.Errorf("ShapeOf %s fails", textOfTraffic(b, traffic))
		return
	}
	found := false
	everyKeeping(b, traffic, len(shape), func(list []int) {
		if sumOf(list) > sumOf(shape[:len(list)]) {
			t.Errorf("ShapeOf %s: %v has sent less than %v", textOfTraffic(b, traffic), shape, list)
		}
		found = found || slices.Equal(list, shape)
	})
	if !found {
		t.Errorf("ShapeOf %s: %v is none of the lists that keep the bucket and send nothing ahead", textOfTraffic(b, traffic), shape)
	}
}

func TestShapesAreAsEarlyAsCanBe(t *testing.T) {
	everyBucket(3, 3, func(b impl.Bucket) {
		for n := range 4 {
			everyTraffic(n, 4, func(traffic []int) { checkEarliest(t, b, traffic) })
		}
		everyTraffic(4, 3, func(traffic []int) { checkEarliest(t, b, traffic) })
	})
	for _, traffic := range [][]int{{5, 0, 1, 4}, {0, 6, 0, 0, 2}, {3, 3, 0, 0, 3}} {
		for _, b := range []impl.Bucket{bucket(1, 2), bucket(2, 2), bucket(1, 4), bucket(3, 1)} {
			checkEarliest(t, b, traffic)
		}
	}
}

func wantLeak(t *testing.T, rate int, traffic []int, want ...int) {
	t.Helper()
	got, ok := impl.LeakOf(rate, traffic)
	wantInts(t, fmt.Sprint("LeakOf ", rate, ", ", traffic), got, ok, want)
}

func wantNoLeak(t *testing.T, rate int, traffic []int) {
	t.Helper()
	got, ok := impl.LeakOf(rate, traffic)
	wantNoInts(t, fmt.Sprintf("LeakOf %d, %.200s", rate, fmt.Sprint(traffic)), got, ok)
}

func TestLeakExamples(t *testing.T) {
	wantLeak(t, 2, shapeExample, 2, 2, 2, 2)
	wantLeak(t, 3, shapeExample, 3, 3, 2)
	wantLeak(t, 4, shapeExample, 4, 4, 0)
	wantLeak(t, 1, nil)
	wantLeak(t, 100, []int{})
	wantLeak(t, 1, []int{0}, 0)
	wantLeak(t, 7, zeros(40), zeros(40)...)
	wantLeak(t, 2, []int{0, 0, 0, 5, 0}, 0, 0, 0, 2, 2, 1) // nothing is saved up
	wantLeak(t, 2, []int{3, 0, 0, 3}, 2, 1, 0, 2, 1)
	wantLeak(t, 1, []int{100}, ones(100)...)
	wantNoLeak(t, 1, []int{101})
	wantLeak(t, 10, []int{1000}, alike(100, 10)...)
	wantNoLeak(t, 10, []int{1000, 1})
	wantLeak(t, 1, append(zeros(39), 61), append(zeros(39), ones(61)...)...)
	wantNoLeak(t, 1, append(zeros(39), 62))
	wantLeak(t, 100, alike(10, 1000), alike(100, 100)...)
	wantNoLeak(t, 100, append(alike(10, 1000), 1))
	wantNoLeak(t, 99, alike(10, 1000))
	wantLeak(t, 100, alike(40, 100), alike(40, 100)...)
	wantNoLeak(t, 100, alike(40, 1000))
}

// checkLeak compares with the plain walk, and wants the rate never to be passed.
func checkLeak(t *testing.T, rate int, traffic []int) {
	t.Helper()
	w := plainLeak(rate, traffic)
	if len(w.sent) > mostShaped {
		wantNoLeak(t, rate, traffic)
		return
	}
	wantLeak(t, rate, traffic, w.sent...)
	if got, _ := impl.LeakOf(rate, traffic); len(got) > 0 && slices.Max(got) > rate || sumOf(got) != sumOf(traffic) {
		t.Errorf("LeakOf %d, %v: %v", rate, traffic, got)
	}
}

func TestLeaks(t *testing.T) {
	for rate := 1; rate <= 4; rate++ {
		for n := range 6 {
			everyTraffic(n, 4, func(traffic []int) { checkLeak(t, rate, traffic) })
		}
	}
	for _, rate := range []int{1, 2, 10, 50, 99, 100} {
		for _, traffic := range edgeTraffic() {
			checkLeak(t, rate, traffic)
		}
	}
	random := &numbers{149}
	for range 1500 {
		checkLeak(t, 1+random.below(impl.MaxRate), random.traffic())
		checkLeak(t, 1+random.below(5), random.traffic())
	}
}

func TestLeaksFail(t *testing.T) {
	for _, rate := range notRates() {
		for _, traffic := range append(edgeTraffic()[:8], shapeExample, []int{1001}) {
			wantNoLeak(t, rate, traffic)
		}
	}
	for _, traffic := range notTraffic() {
		for _, rate := range []int{1, 2, 100, 0, 101} {
			wantNoLeak(t, rate, traffic)
		}
	}
}

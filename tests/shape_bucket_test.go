package tests

import (
	"fmt"
	"slices"
	"testing"

	"loop.example/g01176/impl"
)

func TestIsBucket(t *testing.T) {
	for _, b := range edgeBuckets() {
		if !impl.IsBucket(b) {
			t.Errorf("%v is no bucket", b)
		}
	}
	for _, b := range notBuckets() {
		if impl.IsBucket(b) {
			t.Errorf("%v is a bucket", b)
		}
	}
	for _, rate := range []int{-100, -1, 0, 1, 2, 50, 99, 100, 101, 102} {
		for _, depth := range []int{-1000, -1, 0, 1, 2, 100, 101, 999, 1000, 1001, 1002} {
			want := 1 <= rate && rate <= 100 && 1 <= depth && depth <= 1000
			if impl.IsBucket(bucket(rate, depth)) != want {
				t.Errorf("IsBucket %d, %d is not %v", rate, depth, want)
			}
		}
	}
}

func TestIsTraffic(t *testing.T) {
	random := &numbers{127}
	lists := edgeTraffic()
	for range 200 {
		lists = append(lists, random.traffic())
	}
	for _, traffic := range lists {
		if !impl.IsTraffic(traffic) {
			t.Errorf("%v is no traffic", traffic)
		}
	}
	for _, traffic := range notTraffic() {
		if impl.IsTraffic(traffic) {
			t.Errorf("%.200s is traffic", fmt.Sprint(traffic))
		}
	}
}

// Traffic is fine as long as its length and each of its amounts are within the limits.
func TestLimitsOfTraffic(t *testing.T) {
	for n := range 45 {
		for _, amount := range []int{-1000, -1, 0, 1, 999, 1000, 1001, 2000} {
			want := n <= 40 && 0 <= amount && amount <= 1000
			for tick := range n {
				traffic := zeros(n)
				traffic[tick] = amount
				if impl.IsTraffic(traffic) != want {
					t.Errorf("IsTraffic %v is not %v", traffic, want)
				}
			}
		}
	}
}

func wantLevels(t *testing.T, b impl.Bucket, traffic []int, want ...int) {
	t.Helper()
	levels, ok := impl.LevelsOf(b, traffic)
	wantInts(t, "LevelsOf "+textOfTraffic(b, traffic), levels, ok, want)
	keeps, ok := impl.KeepsBucket(b, traffic)
	wantBool(t, "KeepsBucket "+textOfTraffic(b, traffic), keeps, ok, true)
	breach, ok := impl.FirstBreach(b, traffic)
	wantNoInts(t, "FirstBreach "+textOfTraffic(b, traffic), breach, ok)
}

func wantBreach(t *testing.T, b impl.Bucket, traffic []int, want ...int) {
	t.Helper()
	levels, ok := impl.LevelsOf(b, traffic)
	wantNoInts(t, "LevelsOf "+textOfTraffic(b, traffic), levels, ok)
	keeps, ok := impl.KeepsBucket(b, traffic)
	wantBool(t, "KeepsBucket "+textOfTraffic(b, traffic), keeps, ok, false)
	breach, ok := impl.FirstBreach(b, traffic)
	wantInts(t, "FirstBreach "+textOfTraffic(b, traffic), breach, ok, want)
}

func TestLevelExamples(t *testing.T) {
	b := bucket(2, 5)
	wantLevels(t, b, nil)
	wantLevels(t, b, []int{})
	wantLevels(t, b, zeros(40), alike(40, 5)...)
	wantLevels(t, b, []int{0}, 5)
	wantLevels(t, b, []int{5}, 5)
	wantLevels(t, b, []int{5, 2, 2, 2}, 5, 2, 2, 2)
	wantLevels(t, b, []int{5, 0, 4, 0, 0, 0, 5}, 5, 2, 4, 2, 4, 5, 5)
	wantLevels(t, b, []int{4, 3, 1}, 5, 3, 2)
	wantLevels(t, b, []int{1, 1, 5}, 5, 5, 5)
	wantLevels(t, b, []int{3, 0, 1}, 5, 4, 5)
	wantLevels(t, bucket(2, 6), shapeExample, 6, 4, 2)
	wantLevels(t, bucket(1, 1), ones(40), ones(40)...)
	wantLevels(t, bucket(100, 1), ones(40), ones(40)...)
	wantLevels(t, bucket(100, 1000), []int{1000, 100, 0, 200}, 1000, 100, 100, 200)
	wantLevels(t, bucket(1, 1000), []int{1000, 1, 0, 0, 3, 0}, 1000, 1, 1, 2, 3, 1)
	wantLevels(t, bucket(5, 4), []int{4, 4, 3, 4}, 4, 4, 4, 4)
}

func TestBreachExamples(t *testing.T) {
	b := bucket(2, 5)
	wantBreach(t, b, shapeExample, 0, 1)
	wantBreach(t, b, []int{6}, 0, 0)
	wantBreach(t, b, []int{0, 6}, 1, 1)
	wantBreach(t, b, []int{5, 3}, 0, 1)
	wantBreach(t, b, []int{5, 6}, 1, 1) // from 0 on it is too great, too
	wantBreach(t, b, []int{1, 4, 4}, 1, 2)
	wantBreach(t, b, []int{5, 0, 5, 6}, 0, 2)
	wantBreach(t, b, []int{5, 0, 4, 0, 0, 0, 6}, 6, 6)
	wantBreach(t, b, []int{5, 2, 2, 3}, 0, 3)
	wantBreach(t, b, []int{0, 3, 3, 4, 9}, 1, 3)
	wantBreach(t, b, []int{0, 5, 2, 3, 5, 9}, 1, 3)
	wantBreach(t, b, append(zeros(39), 6), 39, 39)
	wantBreach(t, bucket(1, 1), append(ones(39), 2), 39, 39)
	wantBreach(t, bucket(1, 2), append([]int{2}, append(ones(38), 2)...), 0, 39)
	wantBreach(t, bucket(100, 1), []int{1, 1, 2}, 2, 2)
	wantBreach(t, bucket(100, 1000), []int{1000, 101}, 0, 1)
	wantBreach(t, bucket(100, 999), []int{1000}, 0, 0)
}

// checkLevels compares with the plain walk and with the sums of all stretches: they agree.
func checkLevels(t *testing.T, b impl.Bucket, traffic []int) {
	t.Helper()
	levels, keeps := walkLevels(b, traffic)
	breaches := plainBreaches(b, traffic)
	if keeps != (len(breaches) == 0) {
		t.Errorf("%s: the walk keeps: %v, but stretches are too great: %v", textOfTraffic(b, traffic), keeps, breaches)
	} else if keeps {
		wantLevels(t, b, traffic, levels...)
	} else {
		wantBreach(t, b, traffic, firstOfBreaches(breaches)...)
	}
}

func TestLevelsOfAllSmallTraffic(t *testing.T) {
	everyBucket(3, 5, func(b impl.Bucket) {
		for n := range 5 {
			everyTraffic(n, 5, func(traffic []int) { checkLevels(t, b, traffic) })
		}
	})
}

func TestLevels(t *testing.T) {
	random := &numbers{131}
	for _, b := range edgeBuckets() {
		for _, traffic := range edgeTraffic() {
			checkLevels(t, b, traffic)
		}
	}
	for range 2000 {
		checkLevels(t, random.bucket(), random.traffic())
		b := random.bucket()
		checkLevels(t, b, random.keeping(b, impl.MaxTicks))
	}
}

// Traffic that takes all that the levels let keeps the bucket; with one more at a tick, that is where it first
// breaks.
func TestTrafficAtTheEdge(t *testing.T) {
	random := &numbers{137}
	buckets := edgeBuckets()
	for range 20 {
		buckets = append(buckets, random.bucket())
	}
	for _, b := range buckets {
		full := append([]int{b.Depth}, alike(39, min(b.Rate, b.Depth))...)
		for _, traffic := range [][]int{full, random.keeping(b, 40)} {
			checkLevels(t, b, traffic)
			levels, _ := walkLevels(b, traffic)
			for tick, level := range levels {
				more := slices.Clone(traffic)
				more[tick] = level
				checkKeepsUpTo(t, b, more, tick)
				if level == impl.MaxAmount {
					continue
				}
				more[tick]++
				breach, ok := impl.FirstBreach(b, more)
				if !ok || len(breach) != 2 || breach[1] != tick {
					t.Errorf("FirstBreach %s: %v, %v, want one at %d", textOfTraffic(b, more), breach, ok, tick)
				}
				checkLevels(t, b, more)
			}
		}
	}
}

func checkKeepsUpTo(t *testing.T, b impl.Bucket, traffic []int, tick int) {
	t.Helper()
	keeps, ok := impl.KeepsBucket(b, traffic[:tick+1])
	wantBool(t, "KeepsBucket "+textOfTraffic(b, traffic[:tick+1]), keeps, ok, true)
	if breach, ok := impl.FirstBreach(b, traffic); ok && breach[1] <= tick {
		t.Errorf("FirstBreach %s: %v, want none up to %d", textOfTraffic(b, traffic), breach, tick)
	}
}

// wantBucketFailures wants all functions of a bucket and traffic to fail.
func wantBucketFailures(t *testing.T, b impl.Bucket, traffic []int) {
	t.Helper()
	name := " of " + textOfTraffic(b, traffic)
	for what, function := range map[string]func(impl.Bucket, []int) ([]int, bool){
		"LevelsOf": impl.LevelsOf, "FirstBreach": impl.FirstBreach, "ShapeOf": impl.ShapeOf,
	} {
		got, ok := function(b, traffic)
		wantNoInts(t, what+name, got, ok)
	}
	for what, function := range map[string]func(impl.Bucket, []int) (int, bool){
		"BacklogOfShape": impl.BacklogOfShape, "DelayOfShape": impl.DelayOfShape,
	} {
		got, ok := function(b, traffic)
		wantNoInt(t, what+name, got, ok)
	}
	if keeps, ok := impl.KeepsBucket(b, traffic); keeps || ok {
		t.Errorf("KeepsBucket%s: %v, %v", name, keeps, ok)
	}
	for _, other := range []impl.Bucket{bucket(2, 5), bucket(100, 1000)} {
		if keeps, ok := impl.KeepsBoth(b, other, traffic); keeps || ok {
			t.Errorf("KeepsBoth with %v%s: %v, %v", other, name, keeps, ok)
		}
		if keeps, ok := impl.KeepsBoth(other, b, traffic); keeps || ok {
			t.Errorf("KeepsBoth of %v and%s: %v, %v", other, name, keeps, ok)
		}
	}
}

func TestBucketsFail(t *testing.T) {
	for _, b := range notBuckets() {
		for _, traffic := range [][]int{nil, {}, {0}, {1}, shapeExample, {6}, zeros(40), ones(40), {1001}} {
			wantBucketFailures(t, b, traffic)
		}
	}
	for _, traffic := range notTraffic() {
		for _, b := range append(edgeBuckets(), impl.Bucket{}) {
			wantBucketFailures(t, b, traffic)
		}
	}
}

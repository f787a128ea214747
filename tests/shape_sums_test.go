package tests

import (
	"fmt"
	"strings"
	"testing"

	"loop.example/g01176/impl"
)

// wantSum wants the sum of both, whichever is the first one.
func wantSum(t *testing.T, a, b []int, want ...int) {
	t.Helper()
	got, ok := impl.AddTraffic(a, b)
	wantInts(t, fmt.Sprint("AddTraffic ", a, b), got, ok, want)
	got, ok = impl.AddTraffic(b, a)
	wantInts(t, fmt.Sprint("AddTraffic ", b, a), got, ok, want)
}

func wantNoSum(t *testing.T, a, b []int) {
	t.Helper()
	got, ok := impl.AddTraffic(a, b)
	wantNoInts(t, fmt.Sprintf("AddTraffic %.200s", fmt.Sprint(a, b)), got, ok)
	got, ok = impl.AddTraffic(b, a)
	wantNoInts(t, fmt.Sprintf("AddTraffic %.200s", fmt.Sprint(b, a)), got, ok)
}

func TestAddTraffic(t *testing.T) {
	wantSum(t, nil, nil)
	wantSum(t, nil, []int{})
	wantSum(t, nil, []int{5}, 5)
	wantSum(t, []int{}, shapeExample, shapeExample...)
	wantSum(t, nil, alike(40, 1000), alike(40, 1000)...)
	wantSum(t, []int{1, 2}, []int{3}, 4, 2)
	wantSum(t, []int{1, 2, 3}, []int{30, 10, 20}, 31, 12, 23)
	wantSum(t, []int{0, 0, 7}, []int{1, 0}, 1, 0, 7)
	wantSum(t, []int{500}, []int{500}, 1000)
	wantSum(t, []int{1000}, []int{0}, 1000)
	wantSum(t, []int{1, 1000}, []int{999}, 1000, 1000)
	wantSum(t, zeros(40), zeros(3), zeros(40)...)
	wantSum(t, alike(40, 400), alike(40, 600), alike(40, 1000)...)
	wantSum(t, rising(40), falling(40), alike(40, 39)...)
	wantNoSum(t, []int{500}, []int{501})
	wantNoSum(t, []int{1000}, []int{1})
	wantNoSum(t, []int{1000}, []int{1000})
	wantNoSum(t, append(zeros(39), 1), append(zeros(39), 1000))
	wantNoSum(t, []int{1, 0, 600}, []int{1, 0, 401, 0})
	wantNoSum(t, alike(40, 501), alike(40, 500))
	for _, a := range notTraffic() {
		for _, b := range [][]int{nil, {}, {0}, {1, 2, 3}, zeros(40), {1000}, a, {-1}} {
			wantNoSum(t, a, b)
		}
	}
}

func TestSumsOfTraffic(t *testing.T) {
	random := &numbers{167}
	for range 1000 {
		a, b := random.traffic(), random.traffic()
		want := zeros(max(len(a), len(b)))
		fine := true
		for tick := range want {
			for _, list := range [][]int{a, b} {
				if tick < len(list) {
					want[tick] += list[tick]
				}
			}
			fine = fine && want[tick] <= impl.MaxAmount
		}
		if fine {
			wantSum(t, a, b, want...)
		} else {
			wantNoSum(t, a, b)
		}
	}
}

// checkJoined wants the sums of both rates and depths, whichever bucket is the first one, if these are one.
func checkJoined(t *testing.T, a, b impl.Bucket) {
	t.Helper()
	want := bucket(a.Rate+b.Rate, a.Depth+b.Depth)
	fine := want.Rate <= 100 && want.Depth <= 1000
	if !fine {
		want = impl.Bucket{}
	}
	for _, both := range [][2]impl.Bucket{{a, b}, {b, a}} {
		if got, ok := impl.JoinBuckets(both[0], both[1]); ok != fine || got != want {
			t.Errorf("JoinBuckets %v, %v: %v, %v, want %v, %v", both[0], both[1], got, ok, want, fine)
		}
	}
}

func TestJoinBucketsExamples(t *testing.T) {
	for _, c := range []struct{ a, b, want impl.Bucket }{
		{bucket(1, 1), bucket(1, 1), bucket(2, 2)}, {bucket(2, 5), bucket(3, 700), bucket(5, 705)},
		{bucket(50, 500), bucket(50, 500), bucket(100, 1000)}, {bucket(99, 999), bucket(1, 1), bucket(100, 1000)},
		{bucket(60, 1), bucket(40, 1), bucket(100, 2)}, {bucket(1, 300), bucket(1, 700), bucket(2, 1000)},
	} {
		if got, ok := impl.JoinBuckets(c.a, c.b); !ok || got != c.want {
			t.Errorf("JoinBuckets %v, %v: %v, %v, want %v", c.a, c.b, got, ok, c.want)
		}
	}
	for _, both := range [][2]impl.Bucket{
		{bucket(50, 500), bucket(51, 500)}, {bucket(50, 500), bucket(50, 501)}, {bucket(100, 1), bucket(1, 1)}, {bucket(1, 1000), bucket(1, 1)},
		{bucket(100, 1000), bucket(100, 1000)}, {bucket(1, 1), bucket(99, 1000)}, {bucket(1, 1), bucket(100, 999)},
	} {
		if got, ok := impl.JoinBuckets(both[0], both[1]); ok || got != (impl.Bucket{}) {
			t.Errorf("JoinBuckets %v, %v: %v, %v, want a failure", both[0], both[1], got, ok)
		}
	}
}

func TestJoinBuckets(t *testing.T) {
	random := &numbers{173}
	for range 1000 {
		checkJoined(t, random.bucket(), random.bucket())
	}
	for _, a := range edgeBuckets() {
		for _, b := range edgeBuckets() {
			checkJoined(t, a, b)
		}
		for _, b := range notBuckets() { // also where the sums are a bucket
			for _, both := range [][2]impl.Bucket{{a, b}, {b, a}, {b, b}} {
				if got, ok := impl.JoinBuckets(both[0], both[1]); ok || got != (impl.Bucket{}) {
					t.Errorf("JoinBuckets %v, %v: %v, %v, want a failure", both[0], both[1], got, ok)
				}
			}
		}
	}
}

// checkJoinKeeps wants the sum of traffic that keeps the one and of traffic that keeps the other to keep the
// joined bucket, where there are such.
func checkJoinKeeps(t *testing.T, a, b impl.Bucket, ofA, ofB []int) bool {
	t.Helper()
	joined, isBucket := impl.JoinBuckets(a, b)
	sum, isTraffic := impl.AddTraffic(ofA, ofB)
	if !isBucket || !isTraffic {
		return false
	}
	keeps, ok := impl.KeepsBucket(joined, sum)
	wantBool(t, fmt.Sprint("KeepsBucket ", joined, ", the sum of ", a, ofA, " and ", b, ofB), keeps, ok, true)
	return true
}

func TestJoinedBucketsAreKept(t *testing.T) {
	everyBucket(2, 2, func(a impl.Bucket) {
		everyBucket(2, 2, func(b impl.Bucket) {
			for _, n := range []int{1, 3} {
				everyTraffic(n, 2, func(ofA []int) {
					everyTraffic(3, 2, func(ofB []int) {
						keepsA, _ := impl.KeepsBucket(a, ofA)
						keepsB, _ := impl.KeepsBucket(b, ofB)
						if keepsA && keepsB && !checkJoinKeeps(t, a, b, ofA, ofB) {
							t.Errorf("no sum of %v, %v and %v, %v", a, ofA, b, ofB)
						}
					})
				})
			}
		})
	})
	random := &numbers{179}
	joined := 0
	for range 2000 {
		a, b := random.bucket(), random.bucket()
		if checkJoinKeeps(t, a, b, random.keeping(a, random.below(41)), random.keeping(b, random.below(41))) {
			joined++
		}
	}
	if joined < 500 {
		t.Errorf("just %d buckets were joined", joined)
	}
}

func TestKeepsBothExamples(t *testing.T) {
	steady, deep := bucket(3, 3), bucket(1, 8)
	for _, c := range []struct {
		traffic []int
		want    bool
	}{
		{nil, true}, {[]int{}, true}, {zeros(40), true}, {[]int{3, 3}, true}, {[]int{3, 3, 3}, true},
		{[]int{3, 3, 3, 3}, false}, // only the steady one is kept
		{[]int{4}, false},          // only the deep one is kept
		{[]int{9}, false}, {[]int{0, 9, 0}, false}, {[]int{3, 3, 3, 4}, false},
	} {
		for _, both := range [][2]impl.Bucket{{steady, deep}, {deep, steady}} {
			got, ok := impl.KeepsBoth(both[0], both[1], c.traffic)
			wantBool(t, fmt.Sprint("KeepsBoth ", both, c.traffic), got, ok, c.want)
		}
	}
}

func TestKeepsBoth(t *testing.T) {
	random := &numbers{181}
	for range 2000 {
		a, b := random.bucket(), random.bucket()
		for _, traffic := range [][]int{random.traffic(), random.keeping(a, 8), random.keeping(b, 8)} {
			want := len(plainBreaches(a, traffic)) == 0 && len(plainBreaches(b, traffic)) == 0
			got, ok := impl.KeepsBoth(a, b, traffic)
			wantBool(t, fmt.Sprint("KeepsBoth ", a, b, traffic), got, ok, want)
		}
	}
}

func TestTrafficText(t *testing.T) {
	for _, c := range []struct {
		traffic []int
		want    string
	}{
		{nil, "-"}, {[]int{}, "-"}, {[]int{0}, "0"}, {[]int{7}, "7"}, {[]int{1000}, "1000"}, {shapeExample, "4,4,0"},
		{[]int{10, 0, 999, 1000}, "10,0,999,1000"}, {zeros(3), "0,0,0"}, {rising(12), "0,1,2,3,4,5,6,7,8,9,10,11"},
		{zeros(40), strings.Repeat("0,", 39) + "0"}, {alike(40, 1000), strings.Repeat("1000,", 39) + "1000"},
	} {
		if got, ok := impl.TrafficText(c.traffic); !ok || got != c.want {
			t.Errorf("TrafficText %v: %q, %v, want %q", c.traffic, got, ok, c.want)
		}
	}
	for _, traffic := range notTraffic() {
		if got, ok := impl.TrafficText(traffic); ok || got != "" {
			t.Errorf("TrafficText %.200s: %.200q, %v, want a failure", fmt.Sprint(traffic), got, ok)
		}
	}
}

func TestTextsOfTraffic(t *testing.T) {
	random := &numbers{191}
	for range 300 {
		traffic := random.traffic()
		want := strings.ReplaceAll(strings.Trim(fmt.Sprint(traffic), "[]"), " ", ",")
		if len(traffic) == 0 {
			want = "-"
		}
		if got, ok := impl.TrafficText(traffic); !ok || got != want {
			t.Errorf("TrafficText %v: %q, %v, want %q", traffic, got, ok, want)
		}
	}
}

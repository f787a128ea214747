package tests

import (
	"fmt"
	"math"
	"testing"

	"loop.example/g01176/impl"
)

func wantBounds(t *testing.T, v impl.Server, b impl.Bucket, backlog, delay int) {
	t.Helper()
	got, ok := impl.BacklogBound(v, b)
	wantInt(t, fmt.Sprint("BacklogBound ", v, b), got, ok, backlog)
	got, ok = impl.DelayBound(v, b)
	wantInt(t, fmt.Sprint("DelayBound ", v, b), got, ok, delay)
}

func wantNoBounds(t *testing.T, v impl.Server, b impl.Bucket) {
	t.Helper()
	got, ok := impl.BacklogBound(v, b)
	wantNoInt(t, fmt.Sprint("BacklogBound ", v, b), got, ok)
	got, ok = impl.DelayBound(v, b)
	wantNoInt(t, fmt.Sprint("DelayBound ", v, b), got, ok)
	wantNoBehind(t, v, b)
}

func wantBehind(t *testing.T, v impl.Server, b impl.Bucket, want impl.Bucket) {
	t.Helper()
	got, ok := impl.BucketBehind(v, b)
	if !ok || got != want {
		t.Errorf("BucketBehind %v, %v: got %v, %v, want %v", v, b, got, ok, want)
	}
}

func wantNoBehind(t *testing.T, v impl.Server, b impl.Bucket) {
	t.Helper()
	got, ok := impl.BucketBehind(v, b)
	if ok || got != (impl.Bucket{}) {
		t.Errorf("BucketBehind %v, %v: got %v, %v, want a failure", v, b, got, ok)
	}
}

func TestBoundExamples(t *testing.T) {
	wantBounds(t, exampleServer, exampleBucket, 11, 5)
	wantBehind(t, exampleServer, exampleBucket, bucket(2, 11))
	wantBounds(t, exampleServer, bucket(3, 7), 13, 5) // the server's rate
	wantBehind(t, exampleServer, bucket(3, 7), bucket(3, 13))
	wantNoBounds(t, exampleServer, bucket(4, 7)) // and one more
	wantBounds(t, server(3, 0), exampleBucket, 7, 3)
	wantBehind(t, server(3, 0), exampleBucket, exampleBucket)
	wantBounds(t, server(1, 0), bucket(1, 1), 1, 1)
	wantNoBounds(t, server(1, 0), bucket(2, 1))
	wantBounds(t, server(100, 20), bucket(100, 1000), 3000, 30) // no bucket has such a depth
	wantNoBehind(t, server(100, 20), bucket(100, 1000))
	wantBounds(t, server(1, 20), bucket(1, 1000), 1020, 1020)
	wantNoBehind(t, server(1, 20), bucket(1, 1000))
	wantBounds(t, server(100, 0), bucket(100, 1000), 1000, 10)
	wantBehind(t, server(100, 0), bucket(100, 1000), bucket(100, 1000))
	wantNoBounds(t, server(99, 0), bucket(100, 1000))
	wantBounds(t, server(100, 10), bucket(50, 500), 1000, 15) // just MaxAmount
	wantBehind(t, server(100, 10), bucket(50, 500), bucket(50, 1000))
	wantBounds(t, server(100, 10), bucket(50, 501), 1001, 16) // and one more
	wantNoBehind(t, server(100, 10), bucket(50, 501))
	wantBounds(t, server(1, 1), bucket(1, 999), 1000, 1000)
	wantBehind(t, server(1, 1), bucket(1, 999), bucket(1, 1000))
	wantNoBehind(t, server(1, 1), bucket(1, 1000))
	for depth, delay := range map[int]int{1: 3, 2: 3, 3: 3, 4: 4, 6: 4, 7: 5, 9: 5, 10: 6, 999: 335, 1000: 336} {
		wantBounds(t, exampleServer, bucket(1, depth), depth+2, delay)
	}
}

// checkBounds counts the Rate of the bucket at each tick of the Latency, and the ticks in which the server
// would send the Depth.
func checkBounds(t *testing.T, v impl.Server, b impl.Bucket) {
	t.Helper()
	if b.Rate > v.Rate {
		wantNoBounds(t, v, b)
		return
	}
	backlog, delay := b.Depth, 0
	for range v.Latency {
		backlog += b.Rate
		delay++
	}
	for left := b.Depth; left > 0; left -= v.Rate {
		delay++
	}
	wantBounds(t, v, b, backlog, delay)
	if backlog <= impl.MaxAmount {
		wantBehind(t, v, b, bucket(b.Rate, backlog))
	} else {
		wantNoBehind(t, v, b)
	}
}

func TestBounds(t *testing.T) {
	everyServer(4, 4, func(v impl.Server) {
		everyBucket(6, 12, func(b impl.Bucket) { checkBounds(t, v, b) })
	})
	for _, v := range edgeServers() {
		for _, b := range edgeBuckets() {
			checkBounds(t, v, b)
		}
		for depth := 1; depth <= impl.MaxAmount; depth++ {
			checkBounds(t, v, bucket(1+depth%v.Rate, depth))
		}
	}
	random := &numbers{233}
	for range 1000 {
		v := random.server()
		checkBounds(t, v, random.bucket())
		checkBounds(t, v, random.bucketFor(v))
	}
}

func TestBoundsFail(t *testing.T) {
	for _, v := range notServers() {
		for _, b := range append(edgeBuckets(), bucket(0, 5), bucket(2, 0)) {
			wantNoBounds(t, v, b)
		}
	}
	for _, b := range notBuckets() {
		for _, v := range edgeServers() {
			wantNoBounds(t, v, b)
		}
	}
}

// checkKeepsBounds wants traffic that keeps a bucket to keep the bounds of a server, and what is served of it
// the bucket behind.
func checkKeepsBounds(t *testing.T, v impl.Server, b impl.Bucket, traffic []int) {
	t.Helper()
	name := fmt.Sprint(b, textOfServer(v, traffic))
	sent, ok := impl.ServedBy(v, traffic)
	if !ok {
		if w := plainServed(v, traffic); len(w.sent) <= mostServed {
			t.Errorf("ServedBy %s fails", name)
		}
		return
	}
	backlog, _ := impl.BacklogServed(v, traffic)
	if bound, ok := impl.BacklogBound(v, b); !ok || backlog > bound {
		t.Errorf("%s: the backlog is %d, and its bound %d, %v", name, backlog, bound, ok)
	}
	delay, _ := impl.DelayServed(v, traffic)
	if bound, ok := impl.DelayBound(v, b); !ok || delay > bound {
		t.Errorf("%s: the delay is %d, and its bound %d, %v", name, delay, bound, ok)
	}
	if behind, ok := impl.BucketBehind(v, b); ok && len(plainBreaches(behind, sent)) > 0 {
		t.Errorf("%s: %v does not keep %v", name, sent, behind)
	}
}

func TestAllTrafficKeepsBounds(t *testing.T) {
	everyBucket(3, 4, func(b impl.Bucket) {
		for n := range 6 {
			everyTraffic(n, b.Depth, func(traffic []int) {
				if plainKeeps(b, traffic) {
					everyServer(4, 3, func(v impl.Server) {
						if v.Rate >= b.Rate {
							checkKeepsBounds(t, v, b, traffic)
						}
					})
				}
			})
		}
	})
}

func TestTrafficKeepsBounds(t *testing.T) {
	random := &numbers{239}
	for range 3000 {
		v := random.server()
		b := random.bucketFor(v)
		checkKeepsBounds(t, v, b, random.keeping(b, random.below(impl.MaxTicks+1)))
	}
}

func wantRow(t *testing.T, a, b, want impl.Server) {
	t.Helper()
	got, ok := impl.InRow(a, b)
	if !ok || got != want {
		t.Errorf("InRow %v, %v: got %v, %v, want %v", a, b, got, ok, want)
	}
}

func wantNoRow(t *testing.T, a, b impl.Server) {
	t.Helper()
	got, ok := impl.InRow(a, b)
	if ok || got != (impl.Server{}) {
		t.Errorf("InRow %v, %v: got %v, %v, want a failure", a, b, got, ok)
	}
}

func TestRowExamples(t *testing.T) {
	wantRow(t, exampleServer, server(5, 1), server(3, 3))
	wantRow(t, server(5, 1), exampleServer, server(3, 3))
	wantRow(t, exampleServer, exampleServer, server(3, 4))
	wantRow(t, server(1, 0), server(100, 0), server(1, 0))
	wantRow(t, server(100, 20), server(100, 0), server(100, 20))
	wantRow(t, server(100, 0), server(99, 20), server(99, 20))
	wantRow(t, server(1, 10), server(2, 10), server(1, 20))
	wantNoRow(t, server(1, 10), server(2, 11))
	wantNoRow(t, server(1, 11), server(2, 10))
	wantRow(t, server(7, 19), server(7, 1), server(7, 20))
	wantNoRow(t, server(7, 19), server(7, 2))
	wantNoRow(t, server(7, 20), server(7, 1))
	wantNoRow(t, server(100, 20), server(100, 20))
	for a := range 21 {
		for b := range 21 {
			if a+b <= 20 {
				wantRow(t, server(4, a), server(6, b), server(4, a+b))
			} else {
				wantNoRow(t, server(4, a), server(6, b))
			}
		}
	}
	for _, v := range notServers() {
		for _, other := range append(edgeServers(), v, server(0, 0)) {
			wantNoRow(t, v, other)
			wantNoRow(t, other, v)
		}
	}
}

// checkRow wants two servers, one behind the other, to have sent at least what their row has up to each tick,
// and no part to be there for longer: whether the second one's Latency runs from the tick 0 on, or from the
// end of the first one's.
func checkRow(t *testing.T, a, b impl.Server, traffic []int) {
	t.Helper()
	row, ok := impl.InRow(a, b)
	if !ok {
		t.Errorf("InRow %v, %v fails", a, b)
		return
	}
	between, all := plainServed(a, traffic), plainServed(row, traffic)
	if sent, ok := impl.ServedBy(a, traffic); ok && len(sent) <= impl.MaxTicks {
		checkServed(t, b, sent)
	}
	for _, latency := range []int{b.Latency, row.Latency} {
		sent := plainServed(server(b.Rate, latency), between.sent).sent
		for tick := range all.sent {
			if sumOf(sent[:min(tick+1, len(sent))]) < sumOf(all.sent[:tick+1]) {
				t.Errorf("InRow %v, %v: %v of %v, but one behind the other send %v", a, b, all.sent, traffic, sent)
				return
			}
		}
	}
}

func TestRows(t *testing.T) {
	everyServer(3, 2, func(a impl.Server) {
		everyServer(3, 2, func(b impl.Server) {
			for n := range 4 {
				everyTraffic(n, 4, func(traffic []int) { checkRow(t, a, b, traffic) })
			}
		})
	})
	random := &numbers{241}
	for range 500 {
		a, b := random.server(), random.server()
		if a.Latency+b.Latency > 20 {
			a.Latency = random.below(20 - b.Latency + 1)
		}
		checkRow(t, a, b, random.traffic())
	}
}

// If the second one's Latency runs from the end of the first one's, and it is not the faster one, both send
// just what their row does.
func TestRowsAsTold(t *testing.T) {
	random := &numbers{251}
	for range 500 {
		a, b := random.server(), random.server()
		a.Latency, b.Latency = a.Latency/2, b.Latency/2
		a.Rate, b.Rate = max(a.Rate, b.Rate), min(a.Rate, b.Rate)
		traffic := random.traffic()
		want := plainServed(server(b.Rate, a.Latency+b.Latency), plainServed(a, traffic).sent).sent
		row, ok := impl.InRow(a, b)
		sent, served := impl.ServedBy(row, traffic)
		if len(want) <= mostServed {
			wantInts(t, fmt.Sprint("InRow ", a, b, ", ", traffic), sent, ok && served, want)
		}
	}
}

// checkDelayOfRow wants traffic that keeps a bucket to keep the delay bound of a row behind both of its servers.
func checkDelayOfRow(t *testing.T, a, b impl.Server, keeps impl.Bucket, traffic []int) {
	t.Helper()
	row, ok := impl.InRow(a, b)
	bound, bounded := impl.DelayBound(row, keeps)
	if !ok || !bounded {
		t.Errorf("InRow %v, %v: %v has no bound for %v", a, b, row, keeps)
		return
	}
	sent := plainServed(b, plainServed(a, traffic).sent).sent
	for tick := range sent {
		came := sumOf(traffic[:min(max(tick-bound+1, 0), len(traffic))])
		if sumOf(sent[:tick+1]) < came {
			t.Errorf("InRow %v, %v: %v of %v waits for more than %d ticks", a, b, sent, traffic, bound)
			return
		}
	}
}

func TestDelaysOfRows(t *testing.T) {
	random := &numbers{257}
	for range 1000 {
		a, b := random.server(), random.server()
		a.Latency, b.Latency = a.Latency/2, b.Latency/2
		keeps := random.bucketFor(server(min(a.Rate, b.Rate), 0))
		checkDelayOfRow(t, a, b, keeps, random.keeping(keeps, random.below(impl.MaxTicks+1)))
	}
}

func wantWorst(t *testing.T, b impl.Bucket, n int, want ...int) {
	t.Helper()
	got, ok := impl.WorstTraffic(b, n)
	wantInts(t, fmt.Sprint("WorstTraffic ", b, ", ", n), got, ok, want)
}

func TestWorstTrafficExamples(t *testing.T) {
	b := exampleBucket
	wantWorst(t, b, 0)
	wantWorst(t, b, 1, 7)
	wantWorst(t, b, 2, 7, 2)
	wantWorst(t, b, 5, 7, 2, 2, 2, 2)
	wantWorst(t, b, 40, append([]int{7}, alike(39, 2)...)...)
	wantWorst(t, bucket(7, 7), 3, 7, 7, 7)
	wantWorst(t, bucket(7, 6), 3, 6, 6, 6) // the Depth is less than the Rate
	wantWorst(t, bucket(6, 7), 3, 7, 6, 6)
	wantWorst(t, bucket(100, 1), 40, ones(40)...)
	wantWorst(t, bucket(1, 1), 40, ones(40)...)
	wantWorst(t, bucket(1, 1000), 40, append([]int{1000}, ones(39)...)...)
	wantWorst(t, bucket(100, 1000), 40, append([]int{1000}, alike(39, 100)...)...)
}

// checkWorst wants the traffic to send at each tick all that the bucket lets, and to keep it. With it the delay
// is one tick less than its bound, if it is served in time.
func checkWorst(t *testing.T, b impl.Bucket, n int) {
	t.Helper()
	want, level := []int{}, b.Depth
	for range n {
		want = append(want, level)
		level = refilled(b, 0)
	}
	wantWorst(t, b, n, want...)
	traffic, _ := impl.WorstTraffic(b, n)
	keeps, ok := impl.KeepsBucket(b, traffic)
	wantBool(t, fmt.Sprint("KeepsBucket ", b, ", ", traffic), keeps, ok, true)
	if !impl.IsTraffic(traffic) || !plainKeeps(b, traffic) || len(plainBreaches(b, traffic)) > 0 {
		t.Errorf("WorstTraffic %v, %d: %v does not keep the bucket", b, n, traffic)
	}
	for _, v := range []impl.Server{server(b.Rate, 0), server(b.Rate, 3), server(100, 20)} {
		delay, ok := impl.DelayServed(v, traffic)
		if bound, _ := impl.DelayBound(v, b); ok && n > 0 && delay != bound-1 {
			t.Errorf("DelayServed %v, %v: %d, and the bound is %d", v, traffic, delay, bound)
		}
	}
}

func TestWorstTraffic(t *testing.T) {
	everyBucket(4, 6, func(b impl.Bucket) {
		for n := range impl.MaxTicks + 1 {
			checkWorst(t, b, n)
		}
	})
	random := &numbers{263}
	for range 300 {
		checkWorst(t, random.bucket(), random.below(impl.MaxTicks+1))
	}
	for _, b := range edgeBuckets() {
		for _, n := range []int{0, 1, 2, 20, 39, 40} {
			checkWorst(t, b, n)
		}
	}
}

// No traffic that keeps the bucket has sent more up to any tick.
func TestWorstTrafficSendsMost(t *testing.T) {
	random := &numbers{271}
	for range 1000 {
		b, n := random.bucket(), random.below(impl.MaxTicks+1)
		worst, ok := impl.WorstTraffic(b, n)
		for tick := range n {
			if keeping := random.keeping(b, tick+1); !ok || sumOf(keeping) > sumOf(worst[:tick+1]) {
				t.Errorf("WorstTraffic %v, %d: %v, %v, and %v keeps the bucket", b, n, worst, ok, keeping)
			}
		}
	}
}

func TestWorstTrafficFails(t *testing.T) {
	wantNone := func(b impl.Bucket, n int) {
		t.Helper()
		got, ok := impl.WorstTraffic(b, n)
		wantNoInts(t, fmt.Sprint("WorstTraffic ", b, ", ", n), got, ok)
	}
	for _, b := range edgeBuckets() {
		for _, n := range []int{-1, -2, -40, 41, 42, 100, 1 << 32, 1<<32 + 1, 1 << 62, math.MinInt, math.MaxInt} {
			wantNone(b, n)
		}
	}
	for _, b := range notBuckets() {
		for _, n := range []int{0, 1, 2, 40, -1, 41} {
			wantNone(b, n)
		}
	}
}

package tests

import (
	"fmt"
	"testing"

	"loop.example/g01176/impl"
)

func TestIsServer(t *testing.T) {
	for _, v := range edgeServers() {
		if !impl.IsServer(v) {
			t.Errorf("%v is no server", v)
		}
	}
	for _, v := range notServers() {
		if impl.IsServer(v) {
			t.Errorf("%v is a server", v)
		}
	}
	for _, rate := range []int{-100, -1, 0, 1, 2, 50, 99, 100, 101, 102} {
		for _, latency := range []int{-20, -1, 0, 1, 2, 19, 20, 21, 22, 100} {
			want := 1 <= rate && rate <= 100 && 0 <= latency && latency <= 20
			if impl.IsServer(server(rate, latency)) != want {
				t.Errorf("IsServer %d, %d is not %v", rate, latency, want)
			}
		}
	}
}

func wantServed(t *testing.T, v impl.Server, traffic []int, backlog, delay int, want ...int) {
	t.Helper()
	name := textOfServer(v, traffic)
	sent, ok := impl.ServedBy(v, traffic)
	wantInts(t, "ServedBy "+name, sent, ok, want)
	got, ok := impl.BacklogServed(v, traffic)
	wantInt(t, "BacklogServed "+name, got, ok, backlog)
	got, ok = impl.DelayServed(v, traffic)
	wantInt(t, "DelayServed "+name, got, ok, delay)
}

func wantNoneServed(t *testing.T, v impl.Server, traffic []int) {
	t.Helper()
	name := textOfServer(v, traffic)
	sent, ok := impl.ServedBy(v, traffic)
	wantNoInts(t, "ServedBy "+name, sent, ok)
	got, ok := impl.BacklogServed(v, traffic)
	wantNoInt(t, "BacklogServed "+name, got, ok)
	got, ok = impl.DelayServed(v, traffic)
	wantNoInt(t, "DelayServed "+name, got, ok)
}

func TestServedExamples(t *testing.T) {
	v := exampleServer
	wantServed(t, v, []int{7, 2, 2}, 9, 4, 0, 0, 3, 3, 3, 2) // the last one of 7 is sent at the tick 4, as are both of the first 2
	wantServed(t, v, nil, 0, 0)
	wantServed(t, v, []int{}, 0, 0)
	wantServed(t, v, []int{0}, 0, 0, 0) // the Latency alone makes no ticks
	wantServed(t, v, zeros(40), 0, 0, zeros(40)...)
	wantServed(t, v, []int{1}, 1, 2, 0, 0, 1)
	wantServed(t, v, []int{0, 0, 3}, 0, 0, 0, 0, 3)
	wantServed(t, v, []int{0, 0, 4}, 1, 1, 0, 0, 3, 1)
	wantServed(t, v, []int{0, 1}, 1, 1, 0, 0, 1)
	wantServed(t, v, []int{1, 1, 1}, 2, 2, 0, 0, 3)
	wantServed(t, v, []int{1, 1, 2}, 2, 2, 0, 0, 3, 1)
	wantServed(t, v, []int{4, 0, 0, 0, 0}, 4, 3, 0, 0, 3, 1, 0)
	wantServed(t, v, []int{3, 0, 0, 0, 0, 7, 0}, 4, 2, 0, 0, 3, 0, 0, 3, 3, 1) // later on it is no more behind
	wantServed(t, server(3, 0), []int{7, 2, 2}, 4, 2, 3, 3, 3, 2)
	wantServed(t, server(3, 0), []int{3, 2, 3}, 0, 0, 3, 2, 3)
	wantServed(t, server(3, 1), []int{7, 2, 2}, 7, 3, 0, 3, 3, 3, 2)
	wantServed(t, server(1, 0), []int{2, 0, 0}, 1, 1, 1, 1, 0)
	wantServed(t, server(1, 0), ones(40), 0, 0, ones(40)...)
	wantServed(t, server(1, 20), ones(40), 20, 20, append(zeros(20), ones(40)...)...)
	wantServed(t, server(1, 20), []int{1}, 1, 20, append(zeros(20), 1)...)
	wantServed(t, server(100, 20), []int{1000}, 1000, 29, append(zeros(20), alike(10, 100)...)...)
	wantServed(t, server(100, 20), []int{1000, 1}, 1001, 29, append(append(zeros(20), alike(10, 100)...), 1)...)
	wantServed(t, server(100, 20), alike(20, 100), 2000, 20, append(zeros(20), alike(20, 100)...)...)
	wantServed(t, server(100, 0), []int{1000, 0, 0, 0, 0, 0, 0, 0, 0, 0, 0, 0, 5}, 900, 9, append(alike(10, 100), 0, 0, 5)...)
	wantServed(t, server(50, 20), append(zeros(39), 50), 0, 0, append(zeros(39), 50)...)
}

// What is served in 100 ticks is fine, and with one part more it has one tick too many.
func TestLongestServed(t *testing.T) {
	wantServed(t, server(1, 0), []int{100}, 99, 99, ones(100)...)
	wantNoneServed(t, server(1, 0), []int{101})
	wantServed(t, server(1, 20), []int{80}, 80, 99, append(zeros(20), ones(80)...)...)
	wantNoneServed(t, server(1, 20), []int{81})
	wantNoneServed(t, server(1, 20), []int{80, 1})
	wantServed(t, server(1, 1), []int{0, 99}, 98, 98, append([]int{0}, ones(99)...)...)
	wantNoneServed(t, server(1, 1), []int{0, 100})
	wantNoneServed(t, server(1, 1), []int{0, 99, 1})
	wantServed(t, server(10, 0), []int{1000}, 990, 99, alike(100, 10)...)
	wantNoneServed(t, server(10, 0), []int{1000, 1})
	wantNoneServed(t, server(10, 1), []int{1000})
	wantServed(t, server(100, 0), alike(10, 1000), 9000, 90, alike(100, 100)...)
	wantNoneServed(t, server(100, 0), append(alike(10, 1000), 1))
	wantServed(t, server(100, 20), alike(8, 1000), 8000, 92, append(zeros(20), alike(80, 100)...)...)
	wantNoneServed(t, server(100, 20), append(alike(8, 1000), 1))
	wantServed(t, server(1, 20), append(zeros(39), 61), 60, 60, append(zeros(39), ones(61)...)...)
	wantNoneServed(t, server(1, 20), append(zeros(39), 62))
	wantNoneServed(t, server(100, 20), alike(40, 1000))
	wantNoneServed(t, server(1, 0), alike(40, 1000))
	for n := 75; n <= 105; n++ {
		for _, v := range []impl.Server{server(1, 0), server(1, 2), server(1, 20), server(3, 0), server(3, 20)} {
			for _, amount := range []int{n, 3*n - 1, 3 * n, 3*n + 1} {
				checkServed(t, v, []int{amount})
				checkServed(t, v, []int{0, 0, amount, 0})
			}
		}
	}
}

// checkServed compares with the plain walk in which each part is followed.
func checkServed(t *testing.T, v impl.Server, traffic []int) {
	t.Helper()
	w := plainServed(v, traffic)
	if len(w.sent) > mostServed {
		wantNoneServed(t, v, traffic)
		return
	}
	wantServed(t, v, traffic, w.backlog, w.delay, w.sent...)
	sent, _ := impl.ServedBy(v, traffic)
	if sumOf(sent) != sumOf(traffic) || len(sent) < len(traffic) || len(sent) > len(traffic) && sent[len(sent)-1] == 0 {
		t.Errorf("ServedBy %s: %v has another sum, or too few or too many ticks", textOfServer(v, traffic), sent)
		return
	}
	for tick, amount := range sent {
		waiting := sumOf(traffic[:min(tick+1, len(traffic))]) - sumOf(sent[:tick]) // with what comes at the tick
		if amount < 0 || amount > waiting || amount > v.Rate {
			t.Errorf("ServedBy %s: %v sends ahead or too much at %d", textOfServer(v, traffic), sent, tick)
		}
		if tick < v.Latency && amount > 0 || tick >= v.Latency && amount < v.Rate && amount < waiting {
			t.Errorf("ServedBy %s: %v does not keep to the Latency, or lets the tick %d go by", textOfServer(v, traffic), sent, tick)
		}
	}
}

func TestServedOfAllSmallTraffic(t *testing.T) {
	everyServer(3, 3, func(v impl.Server) {
		for n := range 6 {
			everyTraffic(n, 4, func(traffic []int) { checkServed(t, v, traffic) })
		}
	})
}

func TestServed(t *testing.T) {
	for _, v := range edgeServers() {
		for _, traffic := range edgeTraffic() {
			checkServed(t, v, traffic)
		}
	}
	random := &numbers{227}
	for range 1500 {
		v := random.server()
		checkServed(t, v, random.traffic())
		checkServed(t, v, random.keeping(random.bucketFor(v), random.below(impl.MaxTicks+1)))
	}
}

// A server of no Latency sends what a leak of its rate does.
func TestServedAtOnce(t *testing.T) {
	random := &numbers{229}
	for range 500 {
		rate, traffic := 1+random.below(impl.MaxRate), random.traffic()
		leak, leakOk := impl.LeakOf(rate, traffic)
		sent, ok := impl.ServedBy(server(rate, 0), traffic)
		if ok != leakOk {
			t.Errorf("ServedBy %s: %v, and LeakOf: %v", textOfServer(server(rate, 0), traffic), ok, leakOk)
		} else if ok {
			wantInts(t, fmt.Sprint("ServedBy of the rate ", rate, ", ", traffic), sent, ok, leak)
		}
	}
}

func TestServersFail(t *testing.T) {
	for _, v := range notServers() {
		for _, traffic := range append(edgeTraffic()[:8], shapeExample, []int{1001}) {
			wantNoneServed(t, v, traffic)
		}
	}
	for _, traffic := range notTraffic() {
		for _, v := range append(edgeServers()[:6], server(0, 0), server(1, 21)) {
			wantNoneServed(t, v, traffic)
		}
	}
}

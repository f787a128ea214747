package tests

import (
	"math"
	"runtime"
	"slices"
	"sync"
	"testing"
	"time"

	"loop.example/g01176/impl"
)

func tokenFunctions() map[string]any {
	return map[string]any{
		"IsTokenRing":    impl.IsTokenRing,
		"AreCalls":       impl.AreCalls,
		"VisitsOf":       impl.VisitsOf,
		"SentAt":         impl.SentAt,
		"ArrivedAt":      impl.ArrivedAt,
		"LongestWait":    impl.LongestWait,
		"RestAt":         impl.RestAt,
		"TokenAt":        impl.TokenAt,
		"IdleRound":      impl.IdleRound,
		"LongestRound":   impl.LongestRound,
		"WaitBound":      impl.WaitBound,
		"BacklogAt":      impl.BacklogAt,
		"FullShares":     impl.FullShares,
		"FullCalls":      impl.FullCalls,
		"OrderOfArrival": impl.OrderOfArrival,
	}
}

func tokenPools() pools {
	p := pools{}
	for _, r := range notTokenRings() {
		p.add(r)
	}
	for _, r := range []impl.TokenRing{tokenRing(2, 1, 1), tokenRing(2, 10, 10), exampleTokenRing, tokenRing(5, 2, 3), tokenRing(12, 1, 1), tokenRing(12, 10, 10)} {
		p.add(r)
	}
	for _, calls := range slices.Concat(edgeCallsOf(tokenRing(2, 1, 1)), edgeCallsOf(tokenRing(12, 10, 10)), notCallsOf(tokenRing(2, 1, 1))) {
		p.add(calls)
	}
	p.add([]impl.Call{}, exampleCalls)
	p.add(-1, 0, 1, 2, 4, 7, 10, 11, 100, 101, 1000, 1001, 1<<32, math.MinInt, math.MaxInt)
	return p
}

func TestTokensAreSafe(t *testing.T) {
	p := tokenPools()
	for name, function := range tokenFunctions() {
		checkSafety(t, name, function, p)
	}
}

// goroutinesLeft waits for goroutines that are just ending, and tells how many more there are than before.
func goroutinesLeft(before int) int {
	for range 200 {
		if runtime.NumGoroutine() <= before {
			return 0
		}
		time.Sleep(10 * time.Millisecond)
	}
	return runtime.NumGoroutine() - before
}

func TestNoGoroutineIsLeft(t *testing.T) {
	before := runtime.NumGoroutine()
	for _, r := range append(edgeTokenRings(), notTokenRings()...) {
		for _, calls := range append(edgeCallsOf(exampleTokenRing), notCallsOf(exampleTokenRing)...) {
			impl.VisitsOf(r, calls, 0)
			impl.VisitsOf(r, calls, 5)
			impl.VisitsOf(r, calls, 101)
			impl.SentAt(r, calls)
			impl.ArrivedAt(r, calls)
			impl.LongestWait(r, calls)
			impl.RestAt(r, calls)
			impl.OrderOfArrival(r, calls)
			for _, tick := range []int{-1, 0, 1, 11, impl.MaxTick, impl.MaxTick + 1} {
				impl.TokenAt(r, calls, tick)
				impl.BacklogAt(r, calls, tick)
			}
		}
	}
	if left := goroutinesLeft(before); left > 0 {
		t.Errorf("%d goroutines are left", left)
	}
}

// Calls at the same time, of the same arguments, do not disturb each other.
func TestTokensAtTheSameTime(t *testing.T) {
	r := tokenRing(5, 2, 3)
	random := &numbers{29}
	var lists [][]impl.Call
	for range 20 {
		lists = append(lists, random.calls(r, 50))
	}
	var callers sync.WaitGroup
	for range 8 {
		callers.Go(func() {
			for _, calls := range lists {
				w := walkPlainly(r, calls)
				sent, ok := impl.SentAt(r, calls)
				wantInts(t, "SentAt "+textOfCalls(r, calls), sent, ok, w.sent)
				wantTokenAt(t, r, calls, 40, w.holder[40])
			}
		})
	}
	callers.Wait()
}

package tests

import (
	"fmt"
	"math"
	"slices"
	"testing"

	"loop.example/g01176/impl"
)

func TestIsTokenRing(t *testing.T) {
	for stations := -1; stations <= 14; stations++ {
		for hold := -1; hold <= 12; hold++ {
			for walk := -1; walk <= 12; walk++ {
				want := 2 <= stations && stations <= 12 && 1 <= hold && hold <= 10 && 1 <= walk && walk <= 10
				if got := impl.IsTokenRing(tokenRing(stations, hold, walk)); got != want {
					t.Errorf("IsTokenRing %d, %d, %d is %v", stations, hold, walk, got)
				}
			}
		}
	}
	for _, r := range notTokenRings() {
		if impl.IsTokenRing(r) {
			t.Errorf("%v is a token ring", r)
		}
	}
}

func wantAreCalls(t *testing.T, r impl.TokenRing, calls []impl.Call, want bool) {
	t.Helper()
	if got, ok := impl.AreCalls(r, calls); !ok || got != want {
		t.Errorf("AreCalls %.300s: %v, %v, want %v", textOfCalls(r, calls), got, ok, want)
	}
}

func TestAreCalls(t *testing.T) {
	for _, r := range edgeTokenRings() {
		for _, calls := range edgeCallsOf(r) {
			wantAreCalls(t, r, calls, true)
		}
		for _, calls := range notCallsOf(r) {
			wantAreCalls(t, r, calls, false)
		}
		for n := range 41 {
			wantAreCalls(t, r, callsAt(n, 0, 0, 1), n <= 20)
			wantAreCalls(t, r, callsAt(n, 1000, 1, 0), n <= 20)
		}
	}
	for from := -2; from <= 14; from++ {
		for to := -2; to <= 14; to++ {
			for _, stations := range []int{2, 5, 12} {
				want := 0 <= from && from < stations && 0 <= to && to < stations
				wantAreCalls(t, tokenRing(stations, 1, 1), []impl.Call{call(0, from, to)}, want)
			}
		}
	}
	for first := -2; first <= 4; first++ {
		for second := -2; second <= 4; second++ {
			wantAreCalls(t, exampleTokenRing, []impl.Call{call(first, 0, 1), call(second, 0, 1)}, 0 <= first && first <= second)
			wantAreCalls(t, exampleTokenRing, []impl.Call{call(996+first, 0, 1), call(998+second, 1, 1)}, first-2 <= second && second <= 2)
		}
	}
}

func TestAreCallsOfOthersFails(t *testing.T) {
	for _, r := range notTokenRings() {
		for _, calls := range [][]impl.Call{nil, {}, {call(0, 0, 0)}, exampleCalls, {call(-1, 0, 0)}, callsAt(21, 0, 0, 0)} {
			if got, ok := impl.AreCalls(r, calls); got || ok {
				t.Errorf("AreCalls %s: %v, %v", textOfCalls(r, calls), got, ok)
			}
		}
	}
}

func TestFullCallsExamples(t *testing.T) {
	for _, c := range []struct {
		ring impl.TokenRing
		each int
		want []impl.Call
	}{
		{tokenRing(2, 1, 1), 0, nil},
		{tokenRing(2, 1, 1), 1, []impl.Call{call(0, 0, 1), call(0, 1, 0)}},
		{tokenRing(3, 10, 5), 2, []impl.Call{call(0, 0, 1), call(0, 0, 1), call(0, 1, 2), call(0, 1, 2), call(0, 2, 0), call(0, 2, 0)}},
		{tokenRing(2, 2, 2), 10, append(callsAt(10, 0, 0, 1), callsAt(10, 0, 1, 0)...)},
		{tokenRing(12, 1, 1), 0, nil},
		{tokenRing(5, 1, 1), 4, slices.Concat(callsAt(4, 0, 0, 1), callsAt(4, 0, 1, 2), callsAt(4, 0, 2, 3), callsAt(4, 0, 3, 4), callsAt(4, 0, 4, 0))},
	} {
		got, ok := impl.FullCalls(c.ring, c.each)
		if !ok || !slices.Equal(got, c.want) {
			t.Errorf("FullCalls %v, %d: %v, %v, want %v", c.ring, c.each, got, ok, c.want)
		}
	}
}

func TestFullCallsOfAllRings(t *testing.T) {
	for stations := 2; stations <= 12; stations++ {
		r := tokenRing(stations, 3, 2)
		for each := -2; each <= 25; each++ {
			var want []impl.Call
			fine := 0 <= each && each <= 10 && each*stations <= impl.MaxCalls
			for i := 0; fine && i < each*stations; i++ {
				want = append(want, call(0, i/each, (i/each+1)%stations))
			}
			got, ok := impl.FullCalls(r, each)
			if ok != fine || !slices.Equal(got, want) {
				t.Errorf("FullCalls %v, %d: %v, %v, want %v, %v", r, each, got, ok, want, fine)
			}
			if are, sure := impl.AreCalls(r, got); !are || !sure {
				t.Errorf("FullCalls %v, %d: %v are no calls", r, each, got)
			}
		}
	}
	for _, each := range []int{math.MinInt, math.MaxInt, 1 << 32, 1 << 62, 1 << 63 / 12, -1 << 62, 1 << 61} {
		if got, ok := impl.FullCalls(tokenRing(4, 1, 1), each); ok || len(got) > 0 {
			t.Errorf("FullCalls %d: %v, %v", each, got, ok)
		}
	}
}

// wantTokenFailures wants all functions of a ring with calls to fail.
func wantTokenFailures(t *testing.T, r impl.TokenRing, calls []impl.Call) {
	t.Helper()
	name := fmt.Sprintf("%.300s", textOfCalls(r, calls))
	visits, ok := impl.VisitsOf(r, calls, 3)
	if ok || len(visits) > 0 {
		t.Errorf("VisitsOf %s: %v, %v", name, visits, ok)
	}
	for what, function := range map[string]func(impl.TokenRing, []impl.Call) ([]int, bool){
		"SentAt": impl.SentAt, "ArrivedAt": impl.ArrivedAt, "OrderOfArrival": impl.OrderOfArrival,
	} {
		got, ok := function(r, calls)
		wantNoInts(t, what+" "+name, got, ok)
	}
	for what, function := range map[string]func(impl.TokenRing, []impl.Call) (int, bool){
		"LongestWait": impl.LongestWait, "RestAt": impl.RestAt,
	} {
		got, ok := function(r, calls)
		wantNoInt(t, what+" "+name, got, ok)
	}
	station, ok := impl.TokenAt(r, calls, 0)
	wantNoInt(t, "TokenAt "+name, station, ok)
	backlog, ok := impl.BacklogAt(r, calls, 0)
	wantNoInts(t, "BacklogAt "+name, backlog, ok)
}

func TestTokensOfOthersFail(t *testing.T) {
	for _, r := range edgeTokenRings() {
		for _, calls := range notCallsOf(r) {
			wantTokenFailures(t, r, calls)
		}
	}
	for _, r := range notTokenRings() {
		for _, calls := range [][]impl.Call{nil, {}, {call(0, 0, 0)}, exampleCalls} {
			wantTokenFailures(t, r, calls)
		}
		idle, ok := impl.IdleRound(r)
		wantNoInt(t, fmt.Sprint("IdleRound ", r), idle, ok)
		longest, ok := impl.LongestRound(r)
		wantNoInt(t, fmt.Sprint("LongestRound ", r), longest, ok)
		bound, ok := impl.WaitBound(r, 1)
		wantNoInt(t, fmt.Sprint("WaitBound ", r), bound, ok)
		shares, ok := impl.FullShares(r, 1)
		wantNoInts(t, fmt.Sprint("FullShares ", r), shares, ok)
		if calls, ok := impl.FullCalls(r, 1); ok || len(calls) > 0 {
			t.Errorf("FullCalls %v: %v, %v", r, calls, ok)
		}
	}
}

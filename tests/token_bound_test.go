package tests

import (
	"fmt"
	"math"
	"slices"
	"testing"

	"loop.example/g01176/impl"
)

func TestRounds(t *testing.T) {
	for stations := 2; stations <= 12; stations++ {
		for hold := 1; hold <= 10; hold++ {
			for walk := 1; walk <= 10; walk++ {
				r := tokenRing(stations, hold, walk)
				idle, longest := 0, 0
				for range stations {
					idle += walk
					longest += hold + walk
				}
				got, ok := impl.IdleRound(r)
				wantInt(t, fmt.Sprint("IdleRound ", r), got, ok, idle)
				got, ok = impl.LongestRound(r)
				wantInt(t, fmt.Sprint("LongestRound ", r), got, ok, longest)
			}
		}
	}
}

// A round without calls takes IdleRound; one with full queues LongestRound; no round takes more.
func TestRoundsAreWalked(t *testing.T) {
	random := &numbers{23}
	for _, r := range append(edgeTokenRings(), tokenRing(7, 2, 5), tokenRing(10, 2, 1), tokenRing(6, 3, 9)) {
		idle, _ := impl.IdleRound(r)
		longest, _ := impl.LongestRound(r)
		visits, ok := impl.VisitsOf(r, nil, r.Stations+1)
		if !ok || visits[r.Stations][0] != idle {
			t.Errorf("%v: an idle round ends at %v, %v, want %d", r, visits, ok, idle)
		}
		if full, ok := impl.FullCalls(r, r.Hold); ok {
			visits, ok := impl.VisitsOf(r, full, r.Stations+1)
			if !ok || visits[r.Stations][0] != longest {
				t.Errorf("%v: a full round ends at %v, %v, want %d", r, visits, ok, longest)
			}
		}
		for range 5 {
			visits, _ := impl.VisitsOf(r, random.calls(r, 30), 100)
			if len(visits) != 100 {
				t.Fatalf("%v: %d visits", r, len(visits))
			}
			for k := r.Stations; k < 100; k++ {
				if round := visits[k][0] - visits[k-r.Stations][0]; round < idle || round > longest {
					t.Errorf("%v: a round of %d, not in %d..%d", r, round, idle, longest)
				}
			}
		}
	}
}

func TestWaitBoundExamples(t *testing.T) {
	for _, c := range []struct {
		ring         impl.TokenRing
		ahead, bound int
	}{
		{exampleTokenRing, 0, 5}, {exampleTokenRing, 1, 11}, {exampleTokenRing, 2, 17}, {exampleTokenRing, 100, 605},
		{tokenRing(2, 1, 1), 0, 3}, {tokenRing(2, 1, 1), 1, 7}, {tokenRing(2, 1, 1), 100, 403},
		{tokenRing(2, 10, 1), 0, 21}, {tokenRing(2, 10, 1), 9, 30}, {tokenRing(2, 10, 1), 10, 43}, {tokenRing(2, 10, 1), 100, 241},
		{tokenRing(5, 3, 2), 0, 24}, {tokenRing(5, 3, 2), 2, 26}, {tokenRing(5, 3, 2), 3, 49}, {tokenRing(5, 3, 2), 5, 51},
		{tokenRing(5, 3, 2), 6, 74}, {tokenRing(5, 3, 2), 100, 850},
		{tokenRing(12, 10, 10), 0, 239}, {tokenRing(12, 10, 10), 9, 248}, {tokenRing(12, 10, 10), 10, 479}, {tokenRing(12, 10, 10), 100, 2639},
		{tokenRing(12, 1, 10), 0, 131}, {tokenRing(12, 1, 10), 1, 263}, {tokenRing(12, 1, 10), 100, 13331},
	} {
		got, ok := impl.WaitBound(c.ring, c.ahead)
		wantInt(t, fmt.Sprint("WaitBound ", c.ring, c.ahead), got, ok, c.bound)
	}
}

// The bound takes one LongestRound for each Hold frames that are ahead, one more, and a tick for each of
// the others.
func TestWaitBoundOfAll(t *testing.T) {
	for _, r := range edgeTokenRings() {
		round, _ := impl.LongestRound(r)
		want := round - 1
		for ahead := range 101 {
			got, ok := impl.WaitBound(r, ahead)
			wantInt(t, fmt.Sprint("WaitBound ", r, ahead), got, ok, want)
			want++
			if (ahead+1)%r.Hold == 0 {
				want += round - r.Hold
			}
		}
	}
}

// On a full ring of Hold 1, a frame that is called one tick behind a visit waits as long as the bound.
func TestWaitBoundIsMet(t *testing.T) {
	for _, r := range []impl.TokenRing{tokenRing(2, 1, 1), tokenRing(3, 1, 4), tokenRing(6, 1, 10)} {
		calls, ok := impl.FullCalls(r, 3)
		if !ok {
			t.Fatal("FullCalls fails")
		}
		calls = append(slices.DeleteFunc(calls, func(c impl.Call) bool { return c.From == 0 }), call(1, 0, 1), call(1, 0, 1), call(1, 0, 1))
		calls = append([]impl.Call{call(0, 0, 1)}, calls...)
		if len(calls) > impl.MaxCalls {
			t.Fatal("too many calls")
		}
		sent, ok := impl.SentAt(r, calls)
		if !ok {
			t.Fatal("SentAt fails")
		}
		for ahead := range 3 {
			bound, _ := impl.WaitBound(r, ahead)
			wantInt(t, fmt.Sprint("wait of ", textOfCalls(r, calls)), sent[len(calls)-3+ahead]-1, true, bound)
		}
	}
}

func TestFullShares(t *testing.T) {
	for _, c := range []struct {
		ring          impl.TokenRing
		rounds, share int
	}{
		{tokenRing(2, 1, 1), 0, 0}, {tokenRing(2, 1, 1), 1, 1}, {tokenRing(3, 4, 10), 7, 28}, {tokenRing(12, 10, 1), 100, 1000},
		{tokenRing(12, 1, 10), 100, 100}, {tokenRing(5, 10, 10), 0, 0}, {tokenRing(5, 10, 10), 99, 990},
	} {
		got, ok := impl.FullShares(c.ring, c.rounds)
		wantInts(t, fmt.Sprint("FullShares ", c.ring, c.rounds), got, ok, slices.Repeat([]int{c.share}, c.ring.Stations))
	}
}

// The queues of FullCalls are not empty in as many rounds as they have Holds, in which they get FullShares.
func TestFullSharesAreWalked(t *testing.T) {
	for _, r := range []impl.TokenRing{tokenRing(2, 1, 1), tokenRing(2, 3, 2), tokenRing(2, 10, 10), tokenRing(4, 2, 1), tokenRing(5, 4, 3), tokenRing(10, 2, 7)} {
		calls, ok := impl.FullCalls(r, impl.MaxCalls/r.Stations)
		if !ok {
			t.Fatal("FullCalls fails")
		}
		for rounds := 0; rounds*r.Hold*r.Stations <= len(calls); rounds++ {
			visits, _ := impl.VisitsOf(r, calls, rounds*r.Stations)
			want := zeros(r.Stations)
			for _, v := range visits {
				want[v[1]] += v[2]
			}
			got, ok := impl.FullShares(r, rounds)
			wantInts(t, fmt.Sprint("FullShares ", r, rounds), got, ok, want)
		}
	}
}

func TestNumbersOfTokensFail(t *testing.T) {
	r := exampleTokenRing
	for _, n := range []int{-1, 101, 1000, -101, 1 << 32, math.MinInt, math.MaxInt} {
		bound, ok := impl.WaitBound(r, n)
		wantNoInt(t, fmt.Sprint("WaitBound ", n), bound, ok)
		shares, ok := impl.FullShares(r, n)
		wantNoInts(t, fmt.Sprint("FullShares ", n), shares, ok)
		if visits, ok := impl.VisitsOf(r, exampleCalls, n); ok || len(visits) > 0 {
			t.Errorf("VisitsOf %d: %v, %v", n, visits, ok)
		}
	}
	for _, n := range []int{-1, 1001, -1001, 1 << 32, math.MinInt, math.MaxInt} {
		station, ok := impl.TokenAt(r, exampleCalls, n)
		wantNoInt(t, fmt.Sprint("TokenAt ", n), station, ok)
		backlog, ok := impl.BacklogAt(r, exampleCalls, n)
		wantNoInts(t, fmt.Sprint("BacklogAt ", n), backlog, ok)
	}
}

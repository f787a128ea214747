package tests

import (
	"fmt"
	"math"
	"testing"

	"loop.example/g01176/impl"
)

func TestLongestRepair(t *testing.T) {
	for n := -1; n <= 7; n++ {
		for k := -1; k <= 11; k++ {
			name := fmt.Sprint("LongestRepair ", n, ", ", k)
			got, ok := impl.LongestRepair(n, k)
			if 2 <= n && n <= 4 && n <= k && k <= 5 {
				wantInt(t, name, got, ok, plainRepairs{}.longestOfAll(n, k))
			} else {
				wantNoInt(t, name, got, ok)
			}
		}
	}
}

func TestRepairExamples(t *testing.T) {
	for _, c := range []struct{ n, k, want int }{
		{2, 2, 0}, {2, 3, 0}, {2, 5, 0}, // of two stations one holds the token at once
		{3, 3, 2}, {3, 5, 2}, // as from 0 2 0, of which 1 2 0 are made, and 1 2 2
	} {
		got, ok := impl.LongestRepair(c.n, c.k)
		wantInt(t, fmt.Sprint("LongestRepair ", c.n, ", ", c.k), got, ok, c.want)
	}
	for _, c := range []struct{ n, k, want int }{
		{3, 3, 15}, {2, 2, 4}, {2, 5, 25}, {3, 2, 6}, {4, 2, 8}, {5, 2, 10}, {5, 5, 85},
	} {
		got, ok := impl.CountOneToken(c.n, c.k)
		wantInt(t, fmt.Sprint("CountOneToken ", c.n, ", ", c.k), got, ok, c.want)
	}
}

// There is one holder if all states are the same, or if a station behind the first one begins others.
func TestCountOneToken(t *testing.T) {
	for n := -1; n <= 7; n++ {
		for k := -1; k <= 11; k++ {
			name := fmt.Sprint("CountOneToken ", n, ", ", k)
			got, ok := impl.CountOneToken(n, k)
			if n < 2 || n > 5 || k < 2 || k > 5 {
				wantNoInt(t, name, got, ok)
				continue
			}
			count := 0
			everyStatesFor(n, k, func(c statesFor) {
				if len(plainHolders(c.states)) == 1 {
					count++
				}
			})
			wantInt(t, name, got, ok, count)
			wantInt(t, name, got, ok, k+k*(k-1)*(n-1))
		}
	}
}

func TestSearchesOfOtherNumbersFail(t *testing.T) {
	for _, n := range []int{math.MinInt, math.MaxInt, 1 << 32, 1<<32 + 3, -3} {
		for _, m := range []int{2, 3, 4, 5, n} {
			for name, function := range map[string]func(int, int) (int, bool){
				"LongestRepair": impl.LongestRepair, "CountOneToken": impl.CountOneToken,
			} {
				got, ok := function(n, m)
				wantNoInt(t, fmt.Sprint(name, " ", n, ", ", m), got, ok)
				got, ok = function(m, n)
				wantNoInt(t, fmt.Sprint(name, " ", m, ", ", n), got, ok)
			}
		}
	}
}

// With as many states as stations, all tokens but one are lost, whoever fires: in as many firings as told,
// and from some states not in fewer.
func TestTokensAreLost(t *testing.T) {
	random := &numbers{107}
	for n := 2; n <= 4; n++ {
		for k := n; k <= 5; k++ {
			longest, _ := impl.LongestRepair(n, k)
			repairs := plainRepairs{}
			worst := 0
			everyStatesFor(n, k, func(c statesFor) {
				rows, _ := impl.RunFires(c.states, k, random.list(longest, 1000))
				if one, ok := impl.IsOneToken(rows[len(rows)-1], k); !ok || !one {
					t.Errorf("%v: still several tokens behind %d firings: %v", c, longest, rows)
				}
				worst = max(worst, firingsOfWorst(t, c, repairs))
			})
			if worst != longest {
				t.Errorf("%d stations, %d states: %d firings at worst, LongestRepair is %d", n, k, worst, longest)
			}
		}
	}
}

// With more stations too, as long as k is at least their number.
func TestTokensOfManyStationsAreLost(t *testing.T) {
	random := &numbers{113}
	for n := 5; n <= 9; n++ {
		for range 100 {
			k := n + random.below(10-n)
			c := statesFor{random.list(n, k), k}
			states := c.states
			for range 10 {
				rows, _ := impl.RunFires(states, k, random.list(40, 1000))
				states = rows[len(rows)-1]
			}
			if one, ok := impl.IsOneToken(states, k); !ok || !one {
				t.Errorf("%v: still several tokens behind 400 firings: %v", c, states)
			}
		}
	}
}

// firingsOfWorst lets always that holder fire behind which it lasts longest, and counts the firings before
// there is one token.
func firingsOfWorst(t *testing.T, c statesFor, repairs plainRepairs) int {
	t.Helper()
	for firings := 0; ; firings++ {
		holders, ok := impl.HoldersOf(c.states, c.k)
		if !ok || len(holders) == 0 {
			t.Fatalf("no holders of %v", c)
		}
		if len(holders) == 1 {
			return firings
		}
		worst := holders[0]
		for _, s := range holders {
			if repairs.longest(plainFire(c.states, c.k, s), c.k) > repairs.longest(plainFire(c.states, c.k, worst), c.k) {
				worst = s
			}
		}
		c.states, _ = impl.FireStation(c.states, c.k, worst)
	}
}

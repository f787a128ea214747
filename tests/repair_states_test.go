package tests

import (
	"fmt"
	"math"
	"slices"
	"testing"

	"loop.example/g01176/impl"
)

func wantAreStates(t *testing.T, c statesFor, want bool) {
	t.Helper()
	got, ok := impl.AreStates(c.states, c.k)
	wantBool(t, fmt.Sprint("AreStates ", c), got, ok, want)
}

func TestAreStates(t *testing.T) {
	for _, c := range someStates() {
		wantAreStates(t, c, true)
		for _, k := range noStateNumbers() {
			if got, ok := impl.AreStates(c.states, k); got || ok {
				t.Errorf("AreStates %v for %d: %v, %v, want a failure", c.states, k, got, ok)
			}
		}
	}
	for _, c := range notStates() {
		wantAreStates(t, c, false)
	}
	for n := range 20 {
		for k := 2; k <= 9; k++ {
			for s := range n {
				for state := -2; state <= 12; state++ {
					states := zeros(n)
					states[s] = state
					wantAreStates(t, statesFor{states, k}, 2 <= n && n <= 12 && 0 <= state && state < k)
				}
			}
		}
	}
}

func wantHolders(t *testing.T, c statesFor, want ...int) {
	t.Helper()
	holders, ok := impl.HoldersOf(c.states, c.k)
	wantInts(t, fmt.Sprint("HoldersOf ", c), holders, ok, want)
	one, ok := impl.IsOneToken(c.states, c.k)
	wantBool(t, fmt.Sprint("IsOneToken ", c), one, ok, len(want) == 1)
}

func wantFired(t *testing.T, c statesFor, s int, want ...int) {
	t.Helper()
	states, ok := impl.FireStation(c.states, c.k, s)
	wantInts(t, fmt.Sprint("FireStation ", s, " of ", c), states, ok, want)
}

func wantNotFired(t *testing.T, c statesFor, s int) {
	t.Helper()
	states, ok := impl.FireStation(c.states, c.k, s)
	wantNoInts(t, fmt.Sprint("FireStation ", s, " of ", c), states, ok)
}

func TestHoldersExamples(t *testing.T) {
	wantHolders(t, statesFor{[]int{0, 0, 0}, 3}, 0)
	wantHolders(t, statesFor{[]int{1, 0, 0}, 3}, 1)
	wantHolders(t, statesFor{[]int{1, 1, 0}, 3}, 2)
	wantHolders(t, statesFor{[]int{1, 1, 1}, 3}, 0)
	wantHolders(t, statesFor{[]int{0, 1, 0}, 3}, 0, 1, 2)
	wantHolders(t, statesFor{[]int{0, 1, 2}, 3}, 1, 2)
	wantHolders(t, statesFor{[]int{0, 0}, 2}, 0)
	wantHolders(t, statesFor{[]int{0, 1}, 2}, 1)
	wantHolders(t, statesFor{[]int{8, 7}, 9}, 1)
	wantHolders(t, statesFor{[]int{0, 1, 0, 1}, 2}, 1, 2, 3)
	wantHolders(t, statesFor{[]int{0, 1, 0, 1, 0, 1, 0, 1, 0, 1, 8, 0}, 9}, 0, 1, 2, 3, 4, 5, 6, 7, 8, 9, 10, 11)
	wantHolders(t, statesFor{append(zeros(11), 8), 9}, 11)
	wantHolders(t, statesFor{append([]int{8}, zeros(11)...), 9}, 1)
}

func TestFireStationExamples(t *testing.T) {
	wantFired(t, statesFor{[]int{0, 0, 0}, 3}, 0, 1, 0, 0)
	wantFired(t, statesFor{[]int{1, 0, 0}, 3}, 1, 1, 1, 0)
	wantFired(t, statesFor{[]int{1, 1, 0}, 3}, 2, 1, 1, 1)
	wantFired(t, statesFor{[]int{2, 2, 2}, 3}, 0, 0, 2, 2)
	wantFired(t, statesFor{[]int{2, 2, 2}, 4}, 0, 3, 2, 2)
	wantFired(t, statesFor{[]int{1, 1}, 2}, 0, 0, 1)
	wantFired(t, statesFor{[]int{0, 1}, 2}, 1, 0, 0)
	wantFired(t, statesFor{[]int{8, 0, 8}, 9}, 0, 0, 0, 8)
	wantFired(t, statesFor{[]int{0, 1, 2}, 3}, 2, 0, 1, 1)
	wantNotFired(t, statesFor{[]int{0, 1, 2}, 3}, 0)
	wantNotFired(t, statesFor{[]int{0, 0, 0}, 3}, 1)
	wantNotFired(t, statesFor{[]int{0, 0, 0}, 3}, 2)
	wantNotFired(t, statesFor{[]int{0, 0, 0}, 3}, 3)
	wantNotFired(t, statesFor{[]int{0, 1}, 2}, 2)
	wantNotFired(t, statesFor{[]int{0, 1}, 2}, -1)
}

// Each station of each states is looked at. Tokens may become fewer by a firing, but never more, and never
// none.
func TestHoldersAndFirings(t *testing.T) {
	for _, c := range someStates() {
		holders := plainHolders(c.states)
		wantHolders(t, c, holders...)
		for s := range c.states {
			if !plainHolds(c.states, s) {
				wantNotFired(t, c, s)
				continue
			}
			behind := plainFire(c.states, c.k, s)
			wantFired(t, c, s, behind...)
			left, ok := impl.HoldersOf(behind, c.k)
			if !ok || len(left) == 0 || len(left) > len(holders) {
				t.Errorf("the holders of %v are %v, and %v behind the firing of %d", c, holders, left, s)
			}
		}
		for _, s := range []int{-1, len(c.states), len(c.states) + 1, 12, 1 << 32, math.MinInt, math.MaxInt} {
			wantNotFired(t, c, s)
		}
	}
}

// One token goes round, whatever k is.
func TestOneTokenStays(t *testing.T) {
	for _, c := range someStates() {
		if one, _ := impl.IsOneToken(c.states, c.k); !one {
			continue
		}
		holders, _ := impl.HoldersOf(c.states, c.k)
		for range 3 * len(c.states) {
			c.states, _ = impl.FireStation(c.states, c.k, holders[0])
			wantHolders(t, c, (holders[0]+1)%len(c.states))
			holders, _ = impl.HoldersOf(c.states, c.k)
		}
	}
}

func wantRun(t *testing.T, c statesFor, choices []int, want ...[]int) {
	t.Helper()
	rows, ok := impl.RunFires(c.states, c.k, choices)
	wantLists(t, fmt.Sprint("RunFires ", choices, " of ", c), rows, ok, want)
}

func TestRunFiresExamples(t *testing.T) {
	two := []int{0, 1, 2} // the stations 1 and 2 hold tokens
	wantRun(t, statesFor{two, 3}, nil, two)
	wantRun(t, statesFor{two, 3}, []int{}, two)
	wantRun(t, statesFor{two, 3}, []int{0}, two, []int{0, 0, 2})
	wantRun(t, statesFor{two, 3}, []int{1}, two, []int{0, 1, 1})
	wantRun(t, statesFor{two, 3}, []int{2}, two, []int{0, 0, 2})
	wantRun(t, statesFor{two, 3}, []int{math.MaxInt}, two, []int{0, 1, 1})
	wantRun(t, statesFor{two, 3}, []int{1, 0, 7, 0}, two, []int{0, 1, 1}, []int{0, 0, 1}, []int{0, 0, 0}, []int{1, 0, 0})
	three := []int{0, 2, 0}
	wantRun(t, statesFor{three, 3}, []int{3, 3, 5, 9}, three, []int{1, 2, 0}, []int{1, 2, 2}, []int{1, 1, 2}, []int{1, 1, 1})
	wantRun(t, statesFor{three, 4}, []int{math.MaxInt}, three, []int{0, 0, 0})
	wantRun(t, statesFor{three, 4}, []int{math.MaxInt - 1}, three, []int{1, 2, 0})
	wantRun(t, statesFor{[]int{1, 1}, 2}, []int{5, 6, 7}, []int{1, 1}, []int{0, 1}, []int{0, 0}, []int{1, 0})
}

// checkRun compares each step with the plain words.
func checkRun(t *testing.T, c statesFor, choices []int) {
	t.Helper()
	rows := [][]int{c.states}
	for _, choice := range choices {
		now := rows[len(rows)-1]
		holders := plainHolders(now)
		rows = append(rows, plainFire(now, c.k, holders[choice%len(holders)]))
	}
	wantRun(t, c, choices, rows...)
}

func TestRunFires(t *testing.T) {
	random := &numbers{103}
	for _, c := range someStates() {
		checkRun(t, c, nil)
		checkRun(t, c, zeros(40))
		checkRun(t, c, slices.Repeat([]int{math.MaxInt}, 40))
		checkRun(t, c, random.list(40, 1<<30))
		checkRun(t, c, random.list(random.below(40), 13))
	}
}

func TestRunFiresFails(t *testing.T) {
	for _, c := range []statesFor{{[]int{0, 1, 2}, 3}, {[]int{0, 0}, 2}, {rising(9), 9}, {zeros(12), 2}} {
		for _, choices := range [][]int{
			zeros(41), zeros(1000), ones(41), {-1}, {0, -1}, {-1, 0}, {0, -2, 0}, {-3}, {math.MinInt},
			append(zeros(39), -1), append(zeros(40), -1), append(ones(39), math.MinInt),
		} {
			if rows, ok := impl.RunFires(c.states, c.k, choices); ok || len(rows) > 0 {
				t.Errorf("RunFires %v of %v: %v, %v, want a failure", choices, c, rows, ok)
			}
		}
	}
}

func TestStatesOfOthersFail(t *testing.T) {
	cases := notStates()
	for _, k := range noStateNumbers() {
		for _, states := range [][]int{{0, 0, 0}, {0, 1}, {1, 0, 0}, zeros(12), nil} {
			cases = append(cases, statesFor{states, k})
		}
	}
	for _, c := range cases {
		holders, ok := impl.HoldersOf(c.states, c.k)
		wantNoInts(t, fmt.Sprint("HoldersOf ", c), holders, ok)
		for s := -1; s <= 13; s++ {
			wantNotFired(t, c, s)
		}
		if one, ok := impl.IsOneToken(c.states, c.k); one || ok {
			t.Errorf("IsOneToken %v: %v, %v, want a failure", c, one, ok)
		}
		for _, choices := range [][]int{nil, {0}, {1, 2, 3}} {
			if rows, ok := impl.RunFires(c.states, c.k, choices); ok || len(rows) > 0 {
				t.Errorf("RunFires %v of %v: %v, %v, want a failure", choices, c, rows, ok)
			}
		}
	}
}

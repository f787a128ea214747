package tests

import (
	"fmt"
	"math"
	"slices"

	"loop.example/g01176/impl"
)

// statesFor are states and the k for which they are looked at.
type statesFor struct {
	states []int
	k      int
}

func (c statesFor) String() string {
	return fmt.Sprintf("%.200s for %d", fmt.Sprint(c.states), c.k)
}

// everyStatesFor calls see with all states of n stations.
func everyStatesFor(n, k int, see func(c statesFor)) {
	everyStarts(n, k-1, func(states []int) {
		see(statesFor{slices.Clone(states), k})
	})
}

// someStates are all states for few stations and small k, some for others, and edges: for each number of
// stations and each k all the same states, rising and falling ones, and those that have many holders.
func someStates() []statesFor {
	var cases []statesFor
	add := func(c statesFor) { cases = append(cases, c) }
	for n := 2; n <= 4; n++ {
		for k := 2; k <= 4; k++ {
			everyStatesFor(n, k, add)
		}
	}
	random := &numbers{101}
	for n := 2; n <= impl.MaxStations; n++ {
		for k := 2; k <= impl.MaxState; k++ {
			add(statesFor{zeros(n), k})
			add(statesFor{slices.Repeat([]int{k - 1}, n), k})
			add(statesFor{append(zeros(n-1), k-1), k})
			add(statesFor{append([]int{k - 1}, zeros(n-1)...), k})
			rise := rising(n)
			for s := range rise {
				rise[s] %= k
			}
			add(statesFor{rise, k})
			add(statesFor{turnedBy(n/2, rise), k})
			for range 5 {
				add(statesFor{random.list(n, k), k})
			}
		}
	}
	return cases
}

func notStates() []statesFor {
	return []statesFor{
		{nil, 3}, {[]int{}, 2}, {[]int{0}, 3}, {[]int{2}, 9}, {zeros(13), 2}, {zeros(13), 9}, {zeros(1000), 5}, {rising(13), 9},
		{[]int{0, 3}, 3}, {[]int{3, 0}, 3}, {[]int{0, 2, 0}, 2}, {[]int{0, 0, 2}, 2}, {[]int{0, 9}, 9}, {[]int{9, 9}, 9}, {[]int{8, 9, 8}, 9}, {rising(12), 9},
		{[]int{0, -1}, 3}, {[]int{-1, 0}, 3}, {[]int{0, -1, 0}, 9}, {append(zeros(11), -1), 2}, {append(zeros(11), 2), 2}, {[]int{-1, -1}, 2},
		{[]int{0, math.MaxInt}, 9}, {[]int{math.MinInt, 0}, 9}, {[]int{0, 1 << 32}, 2},
	}
}

// noStateNumbers are no k in 2..MaxState.
func noStateNumbers() []int {
	return []int{1, 10, 0, -1, -2, -9, 11, 12, 100, 1<<32 + 2, math.MinInt, math.MaxInt}
}

// plainHolds tells in the document's words whether a station holds a token.
func plainHolds(states []int, s int) bool {
	if s == 0 {
		last := states[len(states)-1]
		return states[0] == last
	}
	before := states[s-1]
	return states[s] != before
}

func plainHolders(states []int) []int {
	var holders []int
	for s := range states {
		if plainHolds(states, s) {
			holders = append(holders, s)
		}
	}
	return holders
}

// plainFire returns the states behind a firing of a holder.
func plainFire(states []int, k, s int) []int {
	behind := slices.Clone(states)
	switch {
	case s > 0:
		behind[s] = behind[s-1]
	case behind[0] == k-1:
		behind[0] = 0
	default:
		behind[0]++
	}
	return behind
}

// plainRepairs keeps for states the greatest number of firings before there is one holder, as they are found.
type plainRepairs map[string]int

// longest follows all firings from states, one after the other.
func (p plainRepairs) longest(states []int, k int) int {
	holders := plainHolders(states)
	if len(holders) == 1 {
		return 0
	}
	text := fmt.Sprint(states)
	if firings, found := p[text]; found {
		return firings
	}
	longest := 0
	for _, s := range holders {
		longest = max(longest, 1+p.longest(plainFire(states, k, s), k))
	}
	p[text] = longest
	return longest
}

// longestOfAll is the greatest number for all states of n stations.
func (p plainRepairs) longestOfAll(n, k int) int {
	longest := 0
	everyStatesFor(n, k, func(c statesFor) {
		longest = max(longest, p.longest(c.states, k))
	})
	return longest
}

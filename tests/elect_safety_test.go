package tests

import (
	"math"
	"sync"
	"testing"

	"loop.example/g01176/impl"
)

func electFunctions() map[string]any {
	return map[string]any{
		"AreNames":       impl.AreNames,
		"WinnerOf":       impl.WinnerOf,
		"PassedOn":       impl.PassedOn,
		"SimpleMessages": impl.SimpleMessages,
		"WorstNames":     impl.WorstNames,
		"BestNames":      impl.BestNames,
		"SumOfMessages":  impl.SumOfMessages,
		"SurvivorsOf":    impl.SurvivorsOf,
		"RoundMessages":  impl.RoundMessages,
		"BothWays":       impl.BothWays,
		"AreStates":      impl.AreStates,
		"HoldersOf":      impl.HoldersOf,
		"FireStation":    impl.FireStation,
		"RunFires":       impl.RunFires,
		"IsOneToken":     impl.IsOneToken,
		"LongestRepair":  impl.LongestRepair,
		"CountOneToken":  impl.CountOneToken,
	}
}

// electPools have lists that are names, states or choices, and lists that are none.
func electPools() pools {
	p := pools{}
	for _, names := range edgeNames()[:12] {
		p.add(names)
	}
	for _, names := range notNames() {
		p.add(names)
	}
	for _, c := range notStates() {
		p.add(c.states)
	}
	p.add([]int{0, 0, 0}, []int{1, 0, 0}, []int{0, 2, 0}, zeros(2), append(zeros(11), 8), rising(9), rising(12), falling(12))
	p.add(zeros(40), ones(41), []int{math.MaxInt, 0, math.MaxInt}, append(zeros(39), -1), append(ones(38), math.MaxInt))
	for n := -1; n <= 13; n++ {
		p.add(n)
	}
	p.add(40, 1<<32+3, math.MinInt, math.MaxInt)
	return p
}

func TestElectionsAreSafe(t *testing.T) {
	p := electPools()
	for name, function := range electFunctions() {
		checkSafety(t, name, function, p)
	}
}

// The rows of one answer share no memory, also where they are the same.
func TestRowsOfElectionsAreApart(t *testing.T) {
	p := pools{}
	for _, names := range edgeNames() {
		p.add(names)
	}
	checkSafety(t, "SurvivorsOf", impl.SurvivorsOf, p)
	p = pools{}
	for _, c := range someStates()[:60] {
		p.add(c.states)
	}
	p.add(2, 3, 4, 9)
	checkSafety(t, "RunFires", impl.RunFires, p)
}

// Calls at the same time, of the same arguments, do not disturb each other, and answers are always the same.
func TestElectionsAtTheSameTime(t *testing.T) {
	random := &numbers{109}
	var lists [][]int
	for range 20 {
		lists = append(lists, random.names(12))
	}
	longest := plainRepairs{}.longestOfAll(3, 4)
	var callers sync.WaitGroup
	for range 8 {
		callers.Go(func() {
			for _, names := range lists {
				checkSimple(t, names)
				checkRounds(t, names)
				checkBothWays(t, names)
				got, ok := impl.LongestRepair(3, 4)
				wantInt(t, "LongestRepair 3, 4", got, ok, longest)
			}
		})
	}
	callers.Wait()
}

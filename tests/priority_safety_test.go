package tests

import (
	"math"
	"testing"

	"loop.example/g01176/impl"
)

func priorityFunctions() map[string]any {
	return map[string]any{
		"AreJobs":        impl.AreJobs,
		"FirstStarts":    impl.FirstStarts,
		"StrictStarts":   impl.StrictStarts,
		"AgedStarts":     impl.AgedStarts,
		"TurnStarts":     impl.TurnStarts,
		"DeficitStarts":  impl.DeficitStarts,
		"PreemptEnds":    impl.PreemptEnds,
		"OrderOfStarts":  impl.OrderOfStarts,
		"IsSchedule":     impl.IsSchedule,
		"IsBusySchedule": impl.IsBusySchedule,
		"WaitsOf":        impl.WaitsOf,
		"WeightedWait":   impl.WeightedWait,
		"BusyPeriods":    impl.BusyPeriods,
		"WorkLeft":       impl.WorkLeft,
		"CountOvertaken": impl.CountOvertaken,
	}
}

// priorityPools have starts for all jobs in them, as well as shares, quanta, and lists that are neither.
func priorityPools() pools {
	p := pools{}
	p.add([]impl.Job{})
	for _, jobs := range edgeJobs() {
		p.add(jobs)
		for _, starts := range []func([]impl.Job) ([]int, bool){impl.FirstStarts, impl.StrictStarts} {
			if list, ok := starts(jobs); ok {
				p.add(list)
			}
		}
	}
	for _, jobs := range notJobs() {
		p.add(jobs)
	}
	for _, n := range []int{1, 20, 21, 40, 41, 0, -1, math.MinInt, math.MaxInt} {
		p.add(forAll(n), forAll(n)[:7], append(forAll(n), n), []int{n}, []int{0, 5, n}, withClass(forAll(1), 0, n))
	}
	p.add([]int(nil), []int{}, zeros(20), zeros(1000), []int{0, 5, 5000}, []int{5000, 4990, 4980}, []int{5000})
	p.add(-1, 0, 1, 2, 7, 8, 100, 101, 1000, 1001, 5000, 5001, 1<<32, math.MinInt, math.MaxInt)
	return p
}

func TestPrioritiesAreSafe(t *testing.T) {
	p := priorityPools()
	for name, function := range priorityFunctions() {
		checkSafety(t, name, function, p)
	}
}

package tests

import (
	"fmt"
	"math"
	"slices"
	"testing"

	"loop.example/g01176/impl"
)

func wantAreJobs(t *testing.T, jobs []impl.Job, want bool) {
	t.Helper()
	if got := impl.AreJobs(jobs); got != want {
		t.Errorf("AreJobs %.300s is %v", fmt.Sprint(jobs), got)
	}
}

func TestAreJobs(t *testing.T) {
	for _, jobs := range append(edgeJobs(), []impl.Job{}) {
		wantAreJobs(t, jobs, true)
	}
	for _, jobs := range notJobs() {
		wantAreJobs(t, jobs, false)
	}
	for n := range 45 {
		wantAreJobs(t, jobsAt(n, 0, 0, 1), n <= 20)
		wantAreJobs(t, jobsAt(n, 1000, 7, 20), n <= 20)
	}
	for number := -3; number <= 1003; number++ {
		wantAreJobs(t, []impl.Job{job(number, 0, 1)}, 0 <= number && number <= 1000)
		wantAreJobs(t, []impl.Job{job(0, number, 1)}, 0 <= number && number <= 7)
		wantAreJobs(t, []impl.Job{job(0, 0, number)}, 1 <= number && number <= 20)
	}
	for first := -2; first <= 4; first++ {
		for second := -2; second <= 4; second++ {
			wantAreJobs(t, []impl.Job{job(first, 1, 1), job(second, 1, 1)}, 0 <= first && first <= second)
			wantAreJobs(t, []impl.Job{job(996+first, 1, 1), job(998+second, 1, 1)}, first-2 <= second && second <= 2)
		}
	}
}

// wantJobFailures wants all functions to fail, of jobs that are none with starts, or of starts that are none.
func wantJobFailures(t *testing.T, jobs []impl.Job, starts []int) {
	t.Helper()
	name := fmt.Sprintf(" of %.300s, %.300s", fmt.Sprint(jobs), fmt.Sprint(starts))
	for what, function := range map[string]func([]impl.Job, []int) (bool, bool){
		"IsSchedule": impl.IsSchedule, "IsBusySchedule": impl.IsBusySchedule,
	} {
		if got, ok := function(jobs, starts); got || ok {
			t.Errorf("%s: %v, %v, want a failure", what+name, got, ok)
		}
	}
	wantNoSchedule(t, jobs, starts)
}

// wantNoSchedule wants the functions to fail that require a schedule.
func wantNoSchedule(t *testing.T, jobs []impl.Job, starts []int) {
	t.Helper()
	name := fmt.Sprintf(" of %.300s, %.300s", fmt.Sprint(jobs), fmt.Sprint(starts))
	for what, function := range map[string]func([]impl.Job, []int) ([]int, bool){
		"OrderOfStarts": impl.OrderOfStarts, "WaitsOf": impl.WaitsOf,
	} {
		got, ok := function(jobs, starts)
		wantNoInts(t, what+name, got, ok)
	}
	for what, function := range map[string]func([]impl.Job, []int) (int, bool){
		"WeightedWait": impl.WeightedWait, "CountOvertaken": impl.CountOvertaken,
	} {
		got, ok := function(jobs, starts)
		wantNoInt(t, what+name, got, ok)
	}
}

func TestOthersThanJobsFail(t *testing.T) {
	for _, jobs := range notJobs() {
		name := fmt.Sprintf(" of %.300s", fmt.Sprint(jobs))
		for _, o := range lineOrders() {
			got, ok := o.starts(jobs)
			wantNoInts(t, o.name+name, got, ok)
		}
		got, ok := impl.PreemptEnds(jobs)
		wantNoInts(t, "PreemptEnds"+name, got, ok)
		if periods, ok := impl.BusyPeriods(jobs); ok || len(periods) > 0 {
			t.Errorf("BusyPeriods%s: %v, %v", name, periods, ok)
		}
		for _, tick := range []int{0, 1, 1000, 5000} {
			left, ok := impl.WorkLeft(jobs, tick)
			wantNoInt(t, "WorkLeft"+name, left, ok)
		}
		// apart, as many as there are, in the order of a line that has room for all
		starts := make([]int, len(jobs))
		for i := range starts {
			starts[i] = min(1000+30*i, 5000)
		}
		for _, list := range [][]int{starts, nil, {0}, {0, 1}} {
			wantJobFailures(t, jobs, list)
		}
	}
}

func TestNumbersOfOrdersFail(t *testing.T) {
	for _, jobs := range [][]impl.Job{nil, exampleJobs, jobsAt(20, 0, 7, 1)} {
		for _, step := range []int{0, -1, -100, 101, 1000, 1<<32 + 1, math.MinInt, math.MaxInt} {
			got, ok := impl.AgedStarts(jobs, step)
			wantNoInts(t, fmt.Sprint("AgedStarts ", step), got, ok)
		}
		for _, n := range []int{0, -1, 41, 1 << 32, math.MinInt, math.MaxInt} {
			for class := range 8 {
				list := forAll(5)
				list[class] = n
				got, ok := impl.TurnStarts(jobs, list)
				wantNoInts(t, fmt.Sprint("TurnStarts ", list), got, ok)
				got, ok = impl.DeficitStarts(jobs, list)
				wantNoInts(t, fmt.Sprint("DeficitStarts ", list), got, ok)
			}
		}
		for _, n := range []int{0, 1, 2, 7, 9, 16, 1000} {
			list := slices.Repeat([]int{1}, n)
			got, ok := impl.TurnStarts(jobs, list)
			wantNoInts(t, fmt.Sprint("TurnStarts of so many shares: ", n), got, ok)
			got, ok = impl.DeficitStarts(jobs, list)
			wantNoInts(t, fmt.Sprint("DeficitStarts of so many quanta: ", n), got, ok)
		}
		for class := range 8 {
			list := forAll(20)
			list[class] = 21
			got, ok := impl.TurnStarts(jobs, list)
			wantNoInts(t, fmt.Sprint("TurnStarts ", list), got, ok)
			if _, ok := impl.DeficitStarts(jobs, list); !ok {
				t.Errorf("DeficitStarts %v fails", list)
			}
		}
		for _, tick := range []int{-1, 5001, -5000, 1 << 32, math.MinInt, math.MaxInt} {
			left, ok := impl.WorkLeft(jobs, tick)
			wantNoInt(t, fmt.Sprint("WorkLeft ", tick), left, ok)
		}
	}
}

package tests

import (
	"fmt"
	"math"
	"slices"
	"testing"

	"loop.example/g01176/impl"
)

func wantSchedule(t *testing.T, jobs []impl.Job, starts []int, schedule, busy bool) {
	t.Helper()
	name := fmt.Sprint(" of ", jobs, starts)
	got, ok := impl.IsSchedule(jobs, starts)
	wantBool(t, "IsSchedule"+name, got, ok, schedule)
	got, ok = impl.IsBusySchedule(jobs, starts)
	wantBool(t, "IsBusySchedule"+name, got, ok, busy)
	if !schedule {
		wantNoSchedule(t, jobs, starts)
		return
	}
	checkSchedule(t, jobs, starts)
}

// checkSchedule compares what is told of a schedule with what one sees of it.
func checkSchedule(t *testing.T, jobs []impl.Job, starts []int) {
	t.Helper()
	name := fmt.Sprint(" of ", jobs, starts)
	var order, waits []int
	sum := 0
	for tick := range greatestStart + 1 {
		if i := slices.Index(starts, tick); i >= 0 {
			order = append(order, i)
		}
		if len(order) == len(starts) {
			break
		}
	}
	for i, j := range jobs {
		waits = append(waits, starts[i]-j.Tick)
		sum += (starts[i] - j.Tick) * j.Length
	}
	got, ok := impl.OrderOfStarts(jobs, starts)
	wantInts(t, "OrderOfStarts"+name, got, ok, order)
	got, ok = impl.WaitsOf(jobs, starts)
	wantInts(t, "WaitsOf"+name, got, ok, waits)
	number, ok := impl.WeightedWait(jobs, starts)
	wantInt(t, "WeightedWait"+name, number, ok, sum)
	number, ok = impl.CountOvertaken(jobs, starts)
	wantInt(t, "CountOvertaken"+name, number, ok, plainOvertaken(jobs, starts))
}

func TestSchedules(t *testing.T) {
	two := []impl.Job{job(0, 1, 3), job(2, 7, 2)}
	late := []impl.Job{job(1000, 0, 20)}
	for _, c := range []struct {
		jobs           []impl.Job
		starts         []int
		schedule, busy bool
	}{
		{nil, nil, true, true}, {[]impl.Job{}, []int{}, true, true}, {nil, []int{}, true, true},
		{[]impl.Job{job(0, 0, 1)}, []int{0}, true, true}, {[]impl.Job{job(0, 0, 1)}, []int{1}, true, false},
		{[]impl.Job{job(0, 0, 20)}, []int{5000}, true, false}, {[]impl.Job{job(1, 0, 1)}, []int{0}, false, false},
		{late, []int{999}, false, false}, {late, []int{1000}, true, true}, {late, []int{1001}, true, false},
		{late, []int{0}, false, false}, {late, []int{5000}, true, false},
		{two, []int{0, 3}, true, true}, {two, []int{0, 4}, true, false}, {two, []int{0, 2}, false, false},
		{two, []int{0, 1}, false, false}, {two, []int{0, 0}, false, false}, {two, []int{1, 4}, true, false},
		{two, []int{2, 2}, false, false}, {two, []int{3, 2}, false, false}, {two, []int{4, 2}, true, false},
		{two, []int{5, 2}, true, false}, {two, []int{4, 1}, false, false}, {two, []int{5, 3}, true, false},
		{two, []int{4998, 4996}, true, false}, {two, []int{4999, 4996}, true, false}, {two, []int{5000, 4998}, true, false},
		{two, []int{5000, 4999}, false, false}, {two, []int{4999, 5000}, false, false}, {two, []int{4997, 5000}, true, false},
		{[]impl.Job{job(0, 0, 2), job(5, 0, 1)}, []int{0, 5}, true, true}, // free between them
		{[]impl.Job{job(0, 0, 2), job(5, 0, 1)}, []int{0, 6}, true, false},
		{[]impl.Job{job(0, 0, 2), job(2, 0, 1)}, []int{0, 2}, true, true}, // at the very tick
		{[]impl.Job{job(0, 0, 2), job(2, 0, 1)}, []int{0, 3}, true, false},
		{[]impl.Job{job(0, 0, 2), job(2, 0, 1)}, []int{1, 3}, true, false}, // free at 0, at which one waits
		{[]impl.Job{job(0, 0, 2), job(3, 0, 1)}, []int{1, 3}, true, false},
		{[]impl.Job{job(0, 0, 2), job(3, 0, 1), job(3, 0, 1)}, []int{0, 4, 3}, true, true},
		{[]impl.Job{job(0, 0, 2), job(3, 0, 1), job(3, 0, 1)}, []int{0, 3, 3}, false, false},
		{[]impl.Job{job(0, 0, 2), job(3, 0, 1), job(3, 0, 1)}, []int{0, 3, 5}, true, false},
		{exampleJobs, []int{0, 6, 5}, true, true}, {exampleJobs, []int{0, 5, 7}, true, true}, {exampleJobs, []int{0, 5, 8}, true, false},
		{exampleJobs, []int{4, 1, 3}, true, false}, {exampleJobs, []int{3, 1, 2}, false, false}, {exampleJobs, []int{0, 5, 4}, false, false},
		{exampleJobs, []int{0, 5, 6}, false, false}, {exampleJobs, []int{0, 6, 6}, false, false},
		// a long job over a short one in the middle of it
		{[]impl.Job{job(0, 0, 20), job(0, 0, 1)}, []int{0, 10}, false, false}, {[]impl.Job{job(0, 0, 1), job(0, 0, 20)}, []int{10, 0}, false, false},
		{[]impl.Job{job(0, 0, 20), job(0, 0, 1)}, []int{0, 19}, false, false}, {[]impl.Job{job(0, 0, 20), job(0, 0, 1)}, []int{0, 20}, true, true},
		{[]impl.Job{job(0, 0, 20), job(0, 0, 1), job(0, 0, 1)}, []int{0, 3, 20}, false, false},
		{jobsAt(20, 0, 7, 20), multiplesOf(20, 0, 19), true, true}, {jobsAt(20, 0, 7, 20), addedTo(1, multiplesOf(20, 0, 19)), true, false},
		{jobsAt(20, 0, 7, 20), addedTo(4620, multiplesOf(20, 0, 19)), true, false},
		{jobsAt(20, 0, 7, 20), multiplesOf(19, 0, 19), false, false}, {jobsAt(20, 0, 7, 20), zeros(20), false, false},
	} {
		wantSchedule(t, c.jobs, c.starts, c.schedule, c.busy)
		schedule, busy := plainSchedule(c.jobs, c.starts)
		if schedule != c.schedule || busy != c.busy {
			t.Errorf("plainly, %v, %v: %v, %v, want %v, %v", c.jobs, c.starts, schedule, busy, c.schedule, c.busy)
		}
	}
}

func TestOthersThanStartsFail(t *testing.T) {
	one := []impl.Job{job(0, 0, 1)}
	for _, n := range []int{-1, 5001, -5000, 5020, 1 << 32, math.MinInt, math.MaxInt} {
		wantJobFailures(t, one, []int{n})
		wantJobFailures(t, exampleJobs, []int{0, 5, n})
		wantJobFailures(t, exampleJobs, []int{n, 5, 7})
		wantJobFailures(t, []impl.Job{job(1000, 0, 20), job(1000, 7, 20)}, []int{n, n})
	}
	for _, starts := range [][]int{nil, {0}, {0, 5}, {0, 5, 7, 20}, {0, 5, 7, 5000}, {0, 6, 5, 0}, multiplesOf(20, 0, 19), zeros(1000)} {
		wantJobFailures(t, exampleJobs, starts)
	}
	wantJobFailures(t, nil, []int{0})
	wantJobFailures(t, one, nil)
	wantJobFailures(t, one, []int{0, 1})
	wantJobFailures(t, jobsAt(20, 0, 0, 1), multiplesOf(1, 0, 18))
	wantJobFailures(t, jobsAt(20, 0, 0, 1), multiplesOf(1, 0, 20))
}

func TestSchedulesOfAllFewStarts(t *testing.T) {
	for n, last := range map[int]int{0: 0, 1: 8, 2: 8, 3: 5} {
		everyJobs(n, 2, 2, func(jobs []impl.Job) {
			if slices.ContainsFunc(jobs, func(j impl.Job) bool { return j.Class == 6 }) {
				return
			}
			everyStarts(n, last, func(starts []int) {
				schedule, busy := plainFew(jobs, starts)
				wantSchedule(t, jobs, starts, schedule, busy)
			})
		})
	}
}

// everyStarts calls see with all lists of n ticks up to last.
func everyStarts(n, last int, see func(starts []int)) {
	starts := make([]int, n)
	var choose func(i int)
	choose = func(i int) {
		if i == n {
			see(starts)
			return
		}
		for tick := range last + 1 {
			starts[i] = tick
			choose(i + 1)
		}
	}
	choose(0)
}

// plainFew is plainSchedule for early starts, as bits of ticks, which is quicker.
func plainFew(jobs []impl.Job, starts []int) (schedule bool, busy bool) {
	taken, needed := uint64(0), uint64(0)
	for i, j := range jobs {
		own := (uint64(1)<<j.Length - 1) << starts[i]
		if starts[i] < j.Tick || taken&own != 0 {
			return false, false
		}
		taken |= own
		for tick := j.Tick; tick < starts[i]+j.Length; tick++ {
			needed |= 1 << tick
		}
	}
	return true, needed&^taken == 0
}

// Starts of orders, of which some begin later, or at the tick of another one.
func TestSchedulesOfManyStarts(t *testing.T) {
	random := &numbers{53}
	for range 3000 {
		jobs := random.jobs(1+random.below(200), 8, 1+random.below(20))
		o := lineOrders()[random.below(len(lineOrders()))]
		starts, _ := o.starts(jobs)
		switch random.below(4) {
		case 0:
			for i := range starts { // all behind all
				starts[i] += random.below(2) * (greatestStart - 1600)
			}
		case 1:
			for i := range starts {
				starts[i] += random.below(3) - 1
			}
		case 2:
			if len(starts) > 0 {
				starts[random.below(len(starts))] = random.below(300)
			}
		}
		if slices.ContainsFunc(starts, func(tick int) bool { return tick < 0 || tick > greatestStart }) {
			wantJobFailures(t, jobs, starts)
			continue
		}
		schedule, busy := plainSchedule(jobs, starts)
		wantSchedule(t, jobs, starts, schedule, busy)
	}
}

func TestCountOvertaken(t *testing.T) {
	rising := make([]impl.Job, 20)
	for i := range rising {
		rising[i] = job(0, i*8/20, 1)
	}
	for _, c := range []struct {
		jobs   []impl.Job
		starts []int
		want   int
	}{
		{nil, nil, 0}, {exampleJobs, []int{0, 6, 5}, 0}, {exampleJobs, []int{0, 5, 7}, 1}, {exampleJobs, []int{1, 6, 8}, 2}, {exampleJobs, []int{2, 7, 9}, 3},
		{[]impl.Job{job(0, 0, 1), job(0, 7, 1)}, []int{0, 1}, 1}, {[]impl.Job{job(0, 0, 1), job(0, 7, 1)}, []int{1, 0}, 0},
		{[]impl.Job{job(0, 0, 1), job(1, 7, 1)}, []int{0, 1}, 0}, {[]impl.Job{job(0, 0, 1), job(1, 7, 1)}, []int{1, 2}, 1},
		{[]impl.Job{job(0, 0, 1), job(1, 7, 1)}, []int{0, 100}, 0}, {[]impl.Job{job(0, 0, 1), job(1, 7, 1)}, []int{2, 1}, 0},
		{[]impl.Job{job(0, 7, 1), job(0, 0, 1)}, []int{0, 1}, 0}, {[]impl.Job{job(0, 7, 1), job(0, 0, 1)}, []int{1, 0}, 1},
		{jobsAt(20, 0, 3, 1), multiplesOf(1, 0, 19), 0}, // none of the same class
		{rising, multiplesOf(1, 0, 19), 190 - 4*3 - 4*1},
	} {
		got, ok := impl.CountOvertaken(c.jobs, c.starts)
		wantInt(t, fmt.Sprint("CountOvertaken of ", c.jobs, c.starts), got, ok, c.want)
	}
}

func TestWaitsAndOrders(t *testing.T) {
	jobs := []impl.Job{job(0, 0, 20), job(3, 1, 1), job(1000, 7, 5)}
	starts := []int{4000, 3, 5000}
	waits, ok := impl.WaitsOf(jobs, starts)
	wantInts(t, "WaitsOf", waits, ok, []int{4000, 0, 4000})
	order, ok := impl.OrderOfStarts(jobs, starts)
	wantInts(t, "OrderOfStarts", order, ok, []int{1, 0, 2})
	sum, ok := impl.WeightedWait(jobs, starts)
	wantInt(t, "WeightedWait", sum, ok, 100000)
	for _, list := range [][]int{nil, {}} {
		waits, ok := impl.WaitsOf(nil, list)
		wantInts(t, "WaitsOf none", waits, ok, nil)
		order, ok := impl.OrderOfStarts(nil, list)
		wantInts(t, "OrderOfStarts of none", order, ok, nil)
		sum, ok := impl.WeightedWait(nil, list)
		wantInt(t, "WeightedWait of none", sum, ok, 0)
	}
}

package tests

import (
	"fmt"
	"slices"
	"testing"

	"loop.example/g01176/impl"
)

func TestPriorityExample(t *testing.T) {
	strict, ok := impl.StrictStarts(exampleJobs)
	wantInts(t, "StrictStarts", strict, ok, []int{0, 6, 5})
	waits, ok := impl.WaitsOf(exampleJobs, strict)
	wantInts(t, "WaitsOf", waits, ok, []int{0, 5, 3})
	first, ok := impl.FirstStarts(exampleJobs)
	wantInts(t, "FirstStarts", first, ok, []int{0, 5, 7})
	for _, starts := range [][]int{strict, first} {
		sum, ok := impl.WeightedWait(exampleJobs, starts)
		wantInt(t, "WeightedWait", sum, ok, 13)
	}
	ends, ok := impl.PreemptEnds(exampleJobs)
	wantInts(t, "PreemptEnds", ends, ok, []int{8, 4, 3})
}

// startsCase are jobs and their starts by an order.
type startsCase struct {
	order lineOrder
	jobs  []impl.Job
	want  []int
}

func checkStarts(t *testing.T, cases []startsCase) {
	t.Helper()
	for _, c := range cases {
		got, ok := c.order.starts(c.jobs)
		wantInts(t, fmt.Sprint(c.order.name, " of ", c.jobs), got, ok, c.want)
		if plain := walkLine(c.jobs, c.order.plain(c.jobs)); !slices.Equal(plain, c.want) {
			t.Errorf("the plain %s of %v: got %v, want %v", c.order.name, c.jobs, plain, c.want)
		}
	}
}

func TestFirstAndStrictStarts(t *testing.T) {
	first, strict := lineOrders()[0], lineOrders()[1]
	one := []impl.Job{job(0, 0, 3), job(1, 7, 2), job(1, 0, 1), job(10, 3, 20)}
	two := []impl.Job{job(0, 1, 2), job(1, 3, 1), job(1, 5, 1), job(1, 5, 2), job(1, 3, 1)}
	alone := []impl.Job{job(0, 4, 20), job(3, 4, 1), job(3, 4, 2), job(30, 4, 1)}
	atFree, behind := []impl.Job{job(0, 0, 4), job(1, 1, 1), job(4, 2, 1)}, []impl.Job{job(0, 0, 4), job(1, 1, 1), job(5, 2, 1)}
	checkStarts(t, []startsCase{
		{first, one, []int{0, 3, 5, 10}}, {strict, one, []int{0, 3, 5, 10}},
		{first, two, []int{0, 2, 3, 4, 6}}, {strict, two, []int{0, 5, 2, 3, 6}},
		{first, alone, []int{0, 20, 21, 30}}, {strict, alone, []int{0, 20, 21, 30}},
		{first, atFree, []int{0, 4, 5}}, {strict, atFree, []int{0, 5, 4}},
		{first, behind, []int{0, 4, 5}}, {strict, behind, []int{0, 4, 5}},
		{first, []impl.Job{job(1000, 0, 20), job(1000, 7, 20)}, []int{1000, 1020}},
		{strict, []impl.Job{job(1000, 0, 20), job(1000, 7, 20)}, []int{1020, 1000}},
		{first, nil, nil}, {strict, nil, nil},
	})
}

// Of the jobs that wait at the tick 20, the first one has come at 0, the second one at 10.
func TestAgedStarts(t *testing.T) {
	lesserFirst := []impl.Job{job(0, 7, 20), job(0, 1, 1), job(10, 2, 1)}
	muchLesser := []impl.Job{job(0, 7, 20), job(0, 0, 1), job(10, 2, 1)}
	greaterFirst := []impl.Job{job(0, 7, 20), job(0, 3, 1), job(10, 3, 1)}
	// At the tick 320 the class 0 has the age 3, the class 2 the age 1, or 0 if it comes one tick later.
	old := append(jobsAt(16, 0, 7, 20), job(0, 0, 1), job(220, 2, 1))
	young := append(jobsAt(16, 0, 7, 20), job(0, 0, 1), job(221, 3, 1))
	line := []int{0, 20, 40, 60, 80, 100, 120, 140, 160, 180, 200, 220, 240, 260, 280, 300}
	checkStarts(t, []startsCase{
		{agedOrder(1), lesserFirst, []int{0, 20, 21}},
		{agedOrder(10), lesserFirst, []int{0, 20, 21}}, // 3 and 3
		{agedOrder(11), lesserFirst, []int{0, 20, 21}}, // 2 and 2
		{agedOrder(20), lesserFirst, []int{0, 20, 21}}, // 2 and 2
		{agedOrder(21), lesserFirst, []int{0, 21, 20}}, // 1 and 2
		{agedOrder(100), lesserFirst, []int{0, 21, 20}},
		{agedOrder(9), muchLesser, []int{0, 21, 20}},  // 2 and 3
		{agedOrder(10), muchLesser, []int{0, 21, 20}}, // 2 and 3
		{agedOrder(5), muchLesser, []int{0, 20, 21}},  // 4 and 4
		{agedOrder(6), muchLesser, []int{0, 20, 21}},  // 3 and 3
		{agedOrder(7), muchLesser, []int{0, 21, 20}},  // 2 and 3
		{agedOrder(1), greaterFirst, []int{0, 20, 21}},
		{agedOrder(100), greaterFirst, []int{0, 20, 21}},
		{agedOrder(100), old, append(slices.Clone(line), 320, 321)},
		{agedOrder(100), young, append(slices.Clone(line), 320, 321)},
		{agedOrder(100), append(jobsAt(16, 0, 7, 20), job(0, 0, 1), job(220, 3, 1)), append(slices.Clone(line), 321, 320)},
		{agedOrder(1), []impl.Job{job(0, 0, 1), job(0, 7, 1), job(0, 7, 1), job(1, 7, 1)}, []int{3, 0, 1, 2}},
		{agedOrder(1), []impl.Job{job(0, 0, 7), job(0, 0, 1), job(7, 7, 1)}, []int{0, 7, 8}},
		{agedOrder(1), []impl.Job{job(0, 0, 6), job(0, 0, 1), job(6, 7, 1)}, []int{0, 7, 6}},
		{agedOrder(50), nil, nil},
	})
}

func TestPreemptEnds(t *testing.T) {
	for _, c := range []struct {
		jobs []impl.Job
		want []int
	}{
		{nil, nil},
		{[]impl.Job{job(0, 0, 1)}, []int{1}}, {[]impl.Job{job(1000, 7, 20)}, []int{1020}},
		{[]impl.Job{job(0, 3, 4), job(1, 3, 1)}, []int{4, 5}}, // one of the same class does not interrupt
		{[]impl.Job{job(0, 3, 4), job(1, 2, 1)}, []int{4, 5}},
		{[]impl.Job{job(0, 3, 4), job(1, 4, 1)}, []int{5, 2}},
		{[]impl.Job{job(0, 1, 2), job(2, 7, 1)}, []int{2, 3}},
		{[]impl.Job{job(0, 1, 2), job(3, 7, 1)}, []int{2, 4}},
		{[]impl.Job{job(0, 0, 1), job(0, 7, 1)}, []int{2, 1}},
		{[]impl.Job{job(0, 0, 20), job(1, 1, 18), job(2, 2, 16), job(3, 7, 14)}, []int{68, 49, 32, 17}},
		{[]impl.Job{job(0, 0, 3), job(1, 7, 1), job(3, 7, 1), job(5, 7, 1)}, []int{5, 2, 4, 6}},
		{[]impl.Job{job(0, 5, 3), job(1, 7, 1), job(1, 5, 2)}, []int{4, 2, 6}}, // the interrupted one goes on first
	} {
		name := fmt.Sprint("PreemptEnds of ", c.jobs)
		got, ok := impl.PreemptEnds(c.jobs)
		wantInts(t, name, got, ok, c.want)
		if plain := plainPreempt(c.jobs); !slices.Equal(plain, c.want) {
			t.Errorf("plain %s: got %v, want %v", name, plain, c.want)
		}
	}
	got, ok := impl.PreemptEnds(jobsAt(20, 0, 7, 20))
	wantInts(t, "PreemptEnds of MaxJobs", got, ok, multiplesOf(20, 1, 20))
	got, ok = impl.PreemptEnds(jobsAt(20, 1000, 0, 1))
	wantInts(t, "PreemptEnds of MaxJobs", got, ok, addedTo(1000, multiplesOf(1, 1, 20)))
}

// multiplesOf are the numbers n times first, .., n times last.
func multiplesOf(n, first, last int) []int {
	var list []int
	for i := first; i <= last; i++ {
		list = append(list, n*i)
	}
	return list
}

func addedTo(n int, list []int) []int {
	for i := range list {
		list[i] += n
	}
	return list
}

// MaxJobs jobs of one class at one tick begin in their order, by whatever order.
func TestJobsOfOneClass(t *testing.T) {
	for class := range 8 {
		for _, length := range []int{1, 7, impl.MaxLong} {
			for _, tick := range []int{0, 1, 1000} {
				jobs := jobsAt(impl.MaxJobs, tick, class, length)
				for _, o := range lineOrders() {
					got, ok := o.starts(jobs)
					wantInts(t, fmt.Sprint(o.name, " of ", jobs), got, ok, addedTo(tick, multiplesOf(length, 0, 19)))
				}
			}
		}
	}
}

// checkOrders compares what the program tells of jobs by all orders with a plain walk of the line.
func checkOrders(t *testing.T, jobs []impl.Job, orders []lineOrder, ticks ...int) {
	t.Helper()
	sum := 0
	for _, j := range jobs {
		sum += j.Length
	}
	weighted := -1
	for _, o := range orders {
		name := fmt.Sprint(o.name, " of ", jobs)
		want := walkLine(jobs, o.plain(jobs))
		starts, ok := o.starts(jobs)
		wantInts(t, name, starts, ok, want)
		if !ok || len(starts) != len(jobs) {
			continue
		}
		is, ok := impl.IsSchedule(jobs, starts)
		wantBool(t, "IsSchedule "+name, is, ok, true)
		is, ok = impl.IsBusySchedule(jobs, starts)
		wantBool(t, "IsBusySchedule "+name, is, ok, true)
		wait, ok := impl.WeightedWait(jobs, starts)
		if weighted < 0 {
			weighted = wait
		}
		wantInt(t, "WeightedWait "+name, wait, ok, weighted)
		taken, fine := lineTaken(jobs, want)
		if !fine {
			t.Fatalf("%s: two plain jobs at one tick", name)
		}
		checkWork(t, jobs, taken, sum, ticks)
	}
	strict, _ := impl.StrictStarts(jobs)
	overtaken, ok := impl.CountOvertaken(jobs, strict)
	wantInt(t, fmt.Sprint("CountOvertaken by StrictStarts of ", jobs), overtaken, ok, 0)
	ends, ok := impl.PreemptEnds(jobs)
	wantInts(t, fmt.Sprint("PreemptEnds of ", jobs), ends, ok, plainPreempt(jobs))
}

// checkWork compares stretches and the work that is left, at some ticks, with a line of which is told who
// has it at each tick.
func checkWork(t *testing.T, jobs []impl.Job, taken []int, sum int, ticks []int) {
	t.Helper()
	periods, ok := impl.BusyPeriods(jobs)
	wantLists(t, fmt.Sprint("BusyPeriods of ", jobs), periods, ok, plainStretches(taken))
	for _, p := range periods {
		sum -= p[1] - p[0]
	}
	if sum != 0 {
		t.Errorf("BusyPeriods of %v: %v have %d ticks of work too few", jobs, periods, sum)
	}
	work := plainWork(jobs, taken)
	for _, tick := range ticks {
		left, ok := impl.WorkLeft(jobs, tick)
		wantInt(t, fmt.Sprint("WorkLeft ", tick, " of ", jobs), left, ok, work[tick])
	}
}

// ticksAround are the ticks at which jobs come, those before and behind them, and some others.
func ticksAround(jobs []impl.Job) []int {
	ticks := []int{0, 1, 2, 999, 1000, 1001, 1399, 1400, 4999, 5000}
	for _, j := range jobs {
		ticks = append(ticks, max(j.Tick-1, 0), j.Tick, j.Tick+1, j.Tick+j.Length)
	}
	slices.Sort(ticks)
	return slices.Compact(ticks)
}

func TestOrdersOfEdges(t *testing.T) {
	for _, jobs := range append(edgeJobs(), []impl.Job{}) {
		checkOrders(t, jobs, lineOrders(), ticksAround(jobs)...)
	}
}

func TestOrdersOfAllFewJobs(t *testing.T) {
	orders := []lineOrder{
		lineOrders()[0], lineOrders()[1], agedOrder(1), agedOrder(2), turnOrder(forAll(1)...), turnOrder(1, 1, 1, 1, 1, 1, 2, 1),
		deficitOrder(forAll(1)...), deficitOrder(2, 1, 1, 1, 1, 1, 1, 3),
	}
	for n := range 3 {
		everyJobs(n, 4, 4, func(jobs []impl.Job) { checkOrders(t, jobs, orders, 0, 1, 2, 3, 4, 5, 6, 12, 5000) })
	}
	everyJobs(3, 2, 2, func(jobs []impl.Job) { checkOrders(t, jobs, orders, 0, 1, 2, 3, 4) })
}

func TestOrdersOfManyJobs(t *testing.T) {
	random := &numbers{41}
	for i := range 400 {
		jobs := random.jobs([]int{1, 20, 150, 1001}[i%4], 1+random.below(8), []int{1, 4, 20}[i%3])
		orders := []lineOrder{
			lineOrders()[0], lineOrders()[1], agedOrder(1 + random.below(100)), agedOrder(1 + random.below(9)),
			turnOrder(random.forClasses(20)...), turnOrder(random.forClasses(3)...),
			deficitOrder(random.forClasses(40)...), deficitOrder(random.forClasses(6)...),
		}
		checkOrders(t, jobs, orders, random.list(5, 1500)...)
	}
}

// All lines that are never free while a job waits, whichever job begins, make busy schedules of the same
// WeightedWait.
func TestAllOrdersThereAre(t *testing.T) {
	random := &numbers{43}
	for range 60 {
		jobs := random.jobs(25, 8, 6)
		jobs = jobs[:min(len(jobs), 6)]
		first, _ := impl.FirstStarts(jobs)
		want, _ := impl.WeightedWait(jobs, first)
		everyBusySchedule(jobs, func(starts []int) {
			name := fmt.Sprint(" of ", jobs, starts)
			busy, ok := impl.IsBusySchedule(jobs, starts)
			wantBool(t, "IsBusySchedule"+name, busy, ok, true)
			sum, ok := impl.WeightedWait(jobs, starts)
			wantInt(t, "WeightedWait"+name, sum, ok, want)
		})
	}
}

// everyBusySchedule calls see with the starts of all choices of waiting jobs.
func everyBusySchedule(jobs []impl.Job, see func(starts []int)) {
	starts := slices.Repeat([]int{-1}, len(jobs))
	var begin func(tick int)
	begin = func(tick int) {
		if !slices.Contains(starts, -1) {
			see(starts)
			return
		}
		waits := false
		for i, j := range jobs {
			if starts[i] < 0 && j.Tick <= tick {
				waits = true
				starts[i] = tick
				begin(tick + j.Length)
				starts[i] = -1
			}
		}
		if !waits {
			begin(tick + 1)
		}
	}
	begin(0)
}

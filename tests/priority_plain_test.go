package tests

import (
	"fmt"
	"math"
	"slices"
	"testing"

	"loop.example/g01176/impl"
)

// greatestStart is the greatest tick of a start; the line is looked at until the longest job that begins
// then has ended.
const greatestStart = 5000

const lastLineTick = greatestStart + impl.MaxLong

// exampleJobs are those of the document's example.
var exampleJobs = []impl.Job{job(0, 1, 5), job(1, 3, 2), job(2, 7, 1)}

func job(tick, class, length int) impl.Job {
	return impl.Job{Tick: tick, Class: class, Length: length}
}

// jobsAt are so many jobs of one kind.
func jobsAt(n, tick, class, length int) []impl.Job {
	return slices.Repeat([]impl.Job{job(tick, class, length)}, n)
}

// forAll is a list with the same number for each of the eight classes.
func forAll(n int) []int {
	return slices.Repeat([]int{n}, 8)
}

// edgeJobs are jobs of the least and the greatest numbers, that meet and that do not.
func edgeJobs() [][]impl.Job {
	lists := [][]impl.Job{
		nil, exampleJobs,
		{job(0, 0, 1)}, {job(0, 7, 20)}, {job(1000, 0, 20)}, {job(1000, 7, 1)}, {job(0, 0, 1), job(1000, 7, 20)},
		jobsAt(20, 0, 0, 1), jobsAt(20, 0, 7, 20), jobsAt(20, 1000, 3, 20), jobsAt(20, 1000, 7, 1), jobsAt(20, 500, 0, 20),
		// the line becomes free at the tick 4
		{job(0, 3, 4), job(4, 2, 1), job(4, 7, 1)}, {job(0, 3, 4), job(5, 2, 1), job(5, 7, 1)}, {job(0, 3, 4), job(3, 2, 1), job(3, 7, 1)},
		{job(0, 7, 4), job(4, 7, 1), job(4, 6, 1), job(5, 7, 2), job(6, 7, 2)}, {job(0, 7, 4), job(5, 7, 1), job(5, 6, 1), job(6, 7, 2)},
		{job(0, 0, 20), job(20, 0, 20), job(40, 0, 20), job(61, 0, 20)}, {job(3, 0, 1), job(4, 0, 1), job(6, 0, 1), job(7, 0, 1)},
	}
	var rising, falling, mixed, late, apart []impl.Job
	for i := range impl.MaxJobs {
		rising = append(rising, job(0, i*8/20, 1+i))
		falling = append(falling, job(0, (19-i)*8/20, 20-i))
		mixed = append(mixed, job(i*3, i*i%8, 1+i*7%20))
		late = append(late, job(981+i, i*3%8, 1+i*i%20))
		apart = append(apart, job(50*i, i*5%8, 1+i))
	}
	return append(lists, rising, falling, mixed, late, apart)
}

// notJobs are lists that are no jobs.
func notJobs() [][]impl.Job {
	return [][]impl.Job{
		{{}}, {job(-1, 0, 1)}, {job(1001, 0, 1)}, {job(math.MinInt, 0, 1)}, {job(math.MaxInt, 0, 1)}, {job(1<<32, 0, 1)},
		{job(0, -1, 1)}, {job(0, 8, 1)}, {job(0, math.MinInt, 1)}, {job(0, math.MaxInt, 1)}, {job(0, 1<<32, 1)},
		{job(0, 0, 0)}, {job(0, 0, -1)}, {job(0, 0, 21)}, {job(0, 0, math.MinInt)}, {job(0, 0, math.MaxInt)}, {job(0, 0, 1<<32+1)},
		{job(1, 0, 1), job(0, 0, 1)}, {job(1000, 0, 1), job(999, 0, 1)}, {job(0, 0, 1), job(7, 0, 1), job(6, 0, 1), job(8, 0, 1)},
		{job(0, 0, 1), job(0, 8, 1)}, {job(0, 0, 1), job(0, 0, 0)}, {job(0, 0, 1), {}}, {job(0, 0, 1), job(1001, 0, 1)},
		jobsAt(21, 0, 0, 1), jobsAt(21, 1000, 7, 20), jobsAt(5000, 3, 3, 3), append(jobsAt(20, 3, 3, 3), job(2, 3, 3)),
		append(jobsAt(19, 3, 3, 3), job(2, 3, 3)), append(jobsAt(19, 3, 3, 3), job(3, 3, 21)), append(jobsAt(19, 3, 3, 3), job(3, -1, 3)),
	}
}

// chooser chooses one of the jobs that wait when the line is free; idle is told of each tick at which the
// line is free and none waits.
type chooser struct {
	choose func(tick int, waiting []int) int
	idle   func()
}

// walkLine gives the line to jobs, tick by tick, and returns their starts.
func walkLine(jobs []impl.Job, c chooser) []int {
	starts := slices.Repeat([]int{-1}, len(jobs))
	var waiting []int
	taken := 0 // so many ticks the line is not free
	for tick := 0; slices.Contains(starts, -1); tick++ {
		for i, j := range jobs {
			if j.Tick == tick {
				waiting = append(waiting, i)
			}
		}
		if taken == 0 && len(waiting) == 0 && c.idle != nil {
			c.idle()
		}
		if taken == 0 && len(waiting) > 0 {
			i := c.choose(tick, waiting)
			place := slices.Index(waiting, i)
			waiting = slices.Delete(waiting, place, place+1)
			starts[i], taken = tick, jobs[i].Length
		}
		taken = max(taken-1, 0)
	}
	return starts
}

func plainFirst([]impl.Job) chooser {
	return chooser{choose: func(_ int, waiting []int) int { return waiting[0] }}
}

// plainGreatest chooses the one with the greatest sum of its class and what is told of its wait.
func plainGreatest(jobs []impl.Job, age func(waited int) int) chooser {
	return chooser{choose: func(tick int, waiting []int) int {
		sums := make([]int, len(waiting))
		for k, i := range waiting {
			sums[k] = jobs[i].Class + age(tick-jobs[i].Tick)
		}
		return waiting[slices.Index(sums, slices.Max(sums))]
	}}
}

func plainStrict(jobs []impl.Job) chooser {
	return plainGreatest(jobs, func(int) int { return 0 })
}

func plainAged(step int) func(jobs []impl.Job) chooser {
	return func(jobs []impl.Job) chooser {
		return plainGreatest(jobs, func(waited int) int { return waited / step })
	}
}

// firstOf returns the first waiting job of a class, or -1.
func firstOf(jobs []impl.Job, waiting []int, class int) int {
	for _, i := range waiting {
		if jobs[i].Class == class {
			return i
		}
	}
	return -1
}

func plainTurns(shares []int) func(jobs []impl.Job) chooser {
	return func(jobs []impl.Job) chooser {
		turn, begun := 7, 0
		return chooser{
			choose: func(_ int, waiting []int) int {
				for {
					i := firstOf(jobs, waiting, turn)
					if begun < shares[turn] && i >= 0 {
						begun++
						return i
					}
					turn, begun = (turn+7)%8, 0
				}
			},
			idle: func() { turn, begun = 7, 0 },
		}
	}
}

func plainDeficit(quanta []int) func(jobs []impl.Job) chooser {
	return func(jobs []impl.Job) chooser {
		credits, turn, begins := make([]int, 8), 7, true
		return chooser{
			choose: func(_ int, waiting []int) int {
				for {
					if begins {
						credits[turn] += quanta[turn]
						begins = false
					}
					i := firstOf(jobs, waiting, turn)
					if i >= 0 && jobs[i].Length <= credits[turn] {
						credits[turn] -= jobs[i].Length
						return i
					}
					if i < 0 {
						credits[turn] = 0
					}
					turn, begins = (turn+7)%8, true
				}
			},
			idle: func() { credits, turn, begins = make([]int, 8), 7, true },
		}
	}
}

// plainPreempt gives each tick to the one with the greatest class, and returns the ends.
func plainPreempt(jobs []impl.Job) []int {
	ends, done := make([]int, len(jobs)), make([]int, len(jobs))
	for tick := 0; slices.Contains(ends, 0); tick++ {
		chosen := -1
		for i, j := range jobs {
			if j.Tick <= tick && done[i] < j.Length && (chosen < 0 || j.Class > jobs[chosen].Class) {
				chosen = i
			}
		}
		if chosen >= 0 {
			done[chosen]++
			if done[chosen] == jobs[chosen].Length {
				ends[chosen] = tick + 1
			}
		}
	}
	return ends
}

// lineOrder is an order of the program and the same one in plain words.
type lineOrder struct {
	name   string
	starts func(jobs []impl.Job) ([]int, bool)
	plain  func(jobs []impl.Job) chooser
}

func agedOrder(step int) lineOrder {
	return lineOrder{
		fmt.Sprint("AgedStarts ", step),
		func(jobs []impl.Job) ([]int, bool) { return impl.AgedStarts(jobs, step) },
		plainAged(step),
	}
}

func turnOrder(shares ...int) lineOrder {
	return lineOrder{
		fmt.Sprint("TurnStarts ", shares),
		func(jobs []impl.Job) ([]int, bool) { return impl.TurnStarts(jobs, shares) },
		plainTurns(shares),
	}
}

func deficitOrder(quanta ...int) lineOrder {
	return lineOrder{
		fmt.Sprint("DeficitStarts ", quanta),
		func(jobs []impl.Job) ([]int, bool) { return impl.DeficitStarts(jobs, quanta) },
		plainDeficit(quanta),
	}
}

// lineOrders are all five orders, with the least and the greatest numbers that they may have, and others.
func lineOrders() []lineOrder {
	return []lineOrder{
		{"FirstStarts", impl.FirstStarts, plainFirst},
		{"StrictStarts", impl.StrictStarts, plainStrict},
		agedOrder(1), agedOrder(2), agedOrder(7), agedOrder(100),
		turnOrder(forAll(1)...), turnOrder(forAll(20)...), turnOrder(1, 2, 3, 4, 1, 2, 3, 4), turnOrder(20, 1, 1, 2, 1, 1, 3, 1),
		deficitOrder(forAll(1)...), deficitOrder(forAll(40)...), deficitOrder(3, 40, 2, 1, 20, 5, 7, 4), deficitOrder(1, 2, 3, 4, 5, 6, 7, 8),
	}
}

// lineTaken tells for each tick which job has the line, or -1. It fails if two have it at one tick.
func lineTaken(jobs []impl.Job, starts []int) ([]int, bool) {
	taken := slices.Repeat([]int{-1}, lastLineTick+1)
	for i, j := range jobs {
		for tick := starts[i]; tick < starts[i]+j.Length; tick++ {
			if taken[tick] >= 0 {
				return nil, false
			}
			taken[tick] = i
		}
	}
	return taken, true
}

// plainSchedule tells whether starts are a schedule, and whether that is busy.
func plainSchedule(jobs []impl.Job, starts []int) (schedule bool, busy bool) {
	taken, schedule := lineTaken(jobs, starts)
	for i, j := range jobs {
		schedule = schedule && starts[i] >= j.Tick
	}
	if !schedule {
		return false, false
	}
	for i, j := range jobs {
		if slices.Contains(taken[j.Tick:starts[i]+j.Length], -1) {
			return true, false
		}
	}
	return true, true
}

// plainWork tells for each tick how much work is left at its beginning, with that which comes then.
func plainWork(jobs []impl.Job, taken []int) []int {
	work := make([]int, len(taken))
	left := 0
	for tick := range taken {
		for _, j := range jobs {
			if j.Tick == tick {
				left += j.Length
			}
		}
		work[tick] = left
		if taken[tick] >= 0 {
			left--
		}
	}
	return work
}

func plainStretches(taken []int) [][]int {
	var stretches [][]int
	for tick, i := range taken {
		if i < 0 {
			continue
		}
		if tick == 0 || taken[tick-1] < 0 {
			stretches = append(stretches, []int{tick, tick})
		}
		stretches[len(stretches)-1][1] = tick + 1
	}
	return stretches
}

// plainOvertaken counts the pairs by looking who waits at each tick at which a job begins.
func plainOvertaken(jobs []impl.Job, starts []int) int {
	count := 0
	for i, begin := range starts {
		for k, j := range jobs {
			waits := j.Tick <= begin && begin < starts[k]
			if waits && jobs[i].Class < j.Class {
				count++
			}
		}
	}
	return count
}

func wantLists(t *testing.T, name string, got [][]int, ok bool, want [][]int) {
	t.Helper()
	if !ok || !slices.EqualFunc(got, want, slices.Equal[[]int]) {
		t.Errorf("%s: got %v, %v, want %v", name, got, ok, want)
	}
}

func wantBool(t *testing.T, name string, got bool, ok bool, want bool) {
	t.Helper()
	if !ok || got != want {
		t.Errorf("%s: got %v, %v, want %v", name, got, ok, want)
	}
}

// everyJobs calls see with all lists of n jobs at ticks up to last, of the classes 0, 6 and 7 and of
// lengths up to longest.
func everyJobs(n, last, longest int, see func(jobs []impl.Job)) {
	jobs := make([]impl.Job, 0, n)
	var extend func(first int)
	extend = func(first int) {
		if len(jobs) == n {
			see(jobs)
			return
		}
		for tick := first; tick <= last; tick++ {
			for _, class := range []int{0, 6, 7} {
				for length := 1; length <= longest; length++ {
					jobs = append(jobs, job(tick, class, length))
					extend(tick)
					jobs = jobs[:len(jobs)-1]
				}
			}
		}
	}
	extend(0)
}

// jobs are up to MaxJobs, within so many ticks, of so many of the greatest classes, and up to so long.
func (n *numbers) jobs(ticks, classes, longest int) []impl.Job {
	begins := n.list(n.below(impl.MaxJobs+1), ticks)
	slices.Sort(begins)
	var jobs []impl.Job
	for _, tick := range begins {
		jobs = append(jobs, job(tick, 7-n.below(classes), 1+n.below(longest)))
	}
	return jobs
}

// forClasses are eight numbers from 1 up to a greatest one.
func (n *numbers) forClasses(greatest int) []int {
	list := n.list(8, greatest)
	for i := range list {
		list[i]++
	}
	return list
}

package tests

import (
	"fmt"
	"testing"

	"loop.example/g01176/impl"
)

func TestBusyPeriods(t *testing.T) {
	for _, c := range []struct {
		jobs []impl.Job
		want [][]int
	}{
		{nil, nil}, {exampleJobs, [][]int{{0, 8}}},
		{[]impl.Job{job(0, 0, 1)}, [][]int{{0, 1}}}, {[]impl.Job{job(1000, 7, 20)}, [][]int{{1000, 1020}}},
		{[]impl.Job{job(0, 0, 4), job(3, 0, 2)}, [][]int{{0, 6}}},
		{[]impl.Job{job(0, 0, 4), job(4, 0, 2)}, [][]int{{0, 6}}}, // they touch
		{[]impl.Job{job(0, 0, 4), job(5, 0, 2)}, [][]int{{0, 4}, {5, 7}}},
		{[]impl.Job{job(3, 0, 1), job(4, 0, 1), job(6, 0, 1), job(7, 0, 1)}, [][]int{{3, 5}, {6, 8}}},
		{[]impl.Job{job(0, 0, 20), job(20, 7, 20), job(40, 3, 20), job(61, 3, 20)}, [][]int{{0, 60}, {61, 81}}},
		{jobsAt(20, 0, 7, 20), [][]int{{0, 400}}}, {jobsAt(20, 1000, 0, 20), [][]int{{1000, 1400}}}, {jobsAt(20, 1, 0, 1), [][]int{{1, 21}}},
		{append(jobsAt(19, 0, 1, 20), job(379, 2, 1)), [][]int{{0, 381}}}, {append(jobsAt(19, 0, 1, 20), job(381, 2, 1)), [][]int{{0, 380}, {381, 382}}},
	} {
		got, ok := impl.BusyPeriods(c.jobs)
		wantLists(t, fmt.Sprint("BusyPeriods of ", c.jobs), got, ok, c.want)
	}
}

func TestWorkLeft(t *testing.T) {
	late := jobsAt(20, 1000, 0, 20)
	apart := []impl.Job{job(2, 0, 3), job(7, 7, 2), job(8, 0, 1)}
	for _, c := range []struct {
		jobs       []impl.Job
		tick, want int
	}{
		{nil, 0, 0}, {nil, 1, 0}, {nil, 1000, 0}, {nil, 5000, 0},
		{exampleJobs, 0, 5}, {exampleJobs, 1, 6}, {exampleJobs, 2, 6}, {exampleJobs, 3, 5}, {exampleJobs, 4, 4},
		{exampleJobs, 7, 1}, {exampleJobs, 8, 0}, {exampleJobs, 9, 0}, {exampleJobs, 5000, 0},
		{late, 0, 0}, {late, 999, 0}, {late, 1000, 400}, {late, 1001, 399}, {late, 1399, 1}, {late, 1400, 0}, {late, 5000, 0},
		{apart, 0, 0}, {apart, 1, 0}, {apart, 2, 3}, {apart, 3, 2}, {apart, 4, 1}, {apart, 5, 0}, {apart, 6, 0},
		{apart, 7, 2}, {apart, 8, 2}, {apart, 9, 1}, {apart, 10, 0}, {apart, 11, 0},
		{jobsAt(20, 0, 7, 1), 0, 20}, {jobsAt(20, 0, 7, 1), 1, 19}, {jobsAt(20, 0, 7, 1), 20, 0},
	} {
		got, ok := impl.WorkLeft(c.jobs, c.tick)
		wantInt(t, fmt.Sprint("WorkLeft ", c.tick, " of ", c.jobs), got, ok, c.want)
	}
}

// At each tick, the work that is left and that which is done are together the work that has come.
func TestWorkLeftAtAllTicks(t *testing.T) {
	random := &numbers{59}
	for _, jobs := range append(edgeJobs(), random.jobs(300, 8, 20), random.jobs(1001, 8, 20)) {
		periods, ok := impl.BusyPeriods(jobs)
		if !ok {
			t.Fatal("BusyPeriods fails")
		}
		for tick := range greatestStart + 1 {
			come, done := 0, 0
			for _, j := range jobs {
				if j.Tick <= tick {
					come += j.Length
				}
			}
			for _, p := range periods {
				done += max(min(tick, p[1])-p[0], 0)
			}
			left, ok := impl.WorkLeft(jobs, tick)
			wantInt(t, fmt.Sprint("WorkLeft ", tick, " of ", jobs), left+done, ok, come)
		}
	}
}

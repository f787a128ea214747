package tests

import (
	"slices"
	"testing"

	"loop.example/g01176/impl"
)

// withClass is a list that has another number for one class.
func withClass(list []int, class, n int) []int {
	list = slices.Clone(list)
	list[class] = n
	return list
}

func TestTurnStarts(t *testing.T) {
	ones := turnOrder(forAll(1)...)
	five := []impl.Job{job(0, 7, 1), job(0, 7, 1), job(0, 5, 2), job(0, 5, 2), job(0, 0, 3)}
	all := []impl.Job{
		job(0, 0, 1), job(0, 1, 1), job(0, 2, 1), job(0, 3, 1), job(0, 4, 1), job(0, 5, 1), job(0, 6, 1), job(0, 7, 1),
		job(0, 0, 1), job(0, 1, 1), job(0, 2, 1), job(0, 3, 1), job(0, 4, 1), job(0, 5, 1), job(0, 6, 1), job(0, 7, 1),
	}
	checkStarts(t, []startsCase{
		{ones, nil, nil},
		{ones, five, []int{0, 6, 1, 7, 3}},
		{turnOrder(withClass(forAll(1), 5, 2)...), five, []int{0, 8, 1, 3, 5}},
		{turnOrder(withClass(forAll(1), 7, 2)...), five, []int{0, 1, 2, 7, 4}},
		{turnOrder(forAll(20)...), five, []int{0, 1, 2, 4, 6}},
		{ones, all, []int{7, 6, 5, 4, 3, 2, 1, 0, 15, 14, 13, 12, 11, 10, 9, 8}},
		{turnOrder(forAll(2)...), all, []int{14, 12, 10, 8, 6, 4, 2, 0, 15, 13, 11, 9, 7, 5, 3, 1}},
		{turnOrder(2, 1, 1, 1, 1, 1, 1, 1), all, []int{7, 6, 5, 4, 3, 2, 1, 0, 8, 15, 14, 13, 12, 11, 10, 9}},
		// the class 7 keeps its turn while a job of it has the line, if another one has come by the end
		{turnOrder(forAll(2)...), []impl.Job{job(0, 7, 2), job(0, 6, 1), job(2, 7, 1)}, []int{0, 3, 2}},
		{turnOrder(forAll(2)...), []impl.Job{job(0, 7, 2), job(0, 6, 1), job(3, 7, 1)}, []int{0, 2, 3}},
		{turnOrder(forAll(2)...), []impl.Job{job(0, 7, 2), job(0, 6, 1), job(0, 6, 1), job(3, 7, 1)}, []int{0, 2, 3, 4}},
		// a class whose turn is over waits for all others
		{ones, []impl.Job{job(0, 7, 2), job(1, 7, 1), job(1, 6, 1), job(2, 0, 1), job(3, 7, 1)}, []int{0, 4, 2, 3, 5}},
		// 20 of one class before one of another
		{turnOrder(forAll(20)...), append(jobsAt(19, 0, 7, 1), job(0, 6, 1)), multiplesOf(1, 0, 19)},
		{turnOrder(forAll(18)...), append(jobsAt(19, 0, 7, 1), job(0, 6, 1)), append(multiplesOf(1, 0, 17), 19, 18)},
	})
}

// The line is free at the tick 2; if no job waits then, the class 7 has the turn anew.
func TestTurnsAnew(t *testing.T) {
	ones, twos := turnOrder(forAll(1)...), turnOrder(forAll(2)...)
	checkStarts(t, []startsCase{
		{ones, []impl.Job{job(0, 3, 2), job(2, 2, 1), job(2, 7, 1)}, []int{0, 2, 3}},
		{ones, []impl.Job{job(0, 3, 2), job(3, 2, 1), job(3, 7, 1)}, []int{0, 4, 3}},
		{ones, []impl.Job{job(0, 7, 2), job(2, 7, 1), job(2, 6, 1)}, []int{0, 3, 2}},
		{ones, []impl.Job{job(0, 7, 2), job(3, 7, 1), job(3, 6, 1)}, []int{0, 3, 4}},
		{twos, []impl.Job{job(0, 7, 2), job(2, 7, 1), job(2, 7, 1), job(2, 6, 1)}, []int{0, 2, 4, 3}},
		{twos, []impl.Job{job(0, 7, 2), job(3, 7, 1), job(3, 7, 1), job(3, 6, 1)}, []int{0, 3, 4, 5}},
		{ones, []impl.Job{job(0, 0, 2), job(2, 1, 1), job(2, 7, 1)}, []int{0, 3, 2}},
		{ones, []impl.Job{job(0, 1, 2), job(900, 0, 1), job(900, 1, 1)}, []int{0, 901, 900}},
	})
}

func TestDeficitStarts(t *testing.T) {
	ones, most := deficitOrder(forAll(1)...), deficitOrder(forAll(40)...)
	three := []impl.Job{job(0, 7, 3), job(0, 3, 2), job(0, 0, 1)}
	checkStarts(t, []startsCase{
		{ones, nil, nil}, {most, nil, nil},
		// the credits grow by 1 in each round: the class 0 begins in the first one, the class 3 in the second one
		{ones, three, []int{3, 1, 0}},
		{most, three, []int{0, 3, 5}},
		{deficitOrder(withClass(forAll(1), 7, 2)...), three, []int{1, 4, 0}},
		{deficitOrder(withClass(forAll(1), 7, 3)...), three, []int{0, 4, 3}},
		{ones, []impl.Job{job(0, 7, 3), job(0, 0, 2)}, []int{2, 0}},
		{ones, []impl.Job{job(0, 7, 20), job(0, 0, 20)}, []int{0, 20}},
		{ones, []impl.Job{job(0, 7, 20), job(0, 0, 19)}, []int{19, 0}},
		{ones, []impl.Job{job(0, 0, 20)}, []int{0}},
		// 40 is enough for two of MaxLong, but not for one more
		{most, []impl.Job{job(0, 7, 20), job(0, 7, 20), job(0, 7, 1), job(0, 6, 1)}, []int{0, 20, 41, 40}},
		{most, []impl.Job{job(0, 7, 20), job(0, 7, 19), job(0, 7, 1), job(0, 6, 1)}, []int{0, 20, 39, 40}},
		// a short job behind a long one of its class waits with it
		{deficitOrder(forAll(2)...), []impl.Job{job(0, 7, 4), job(0, 7, 1), job(0, 6, 2), job(0, 6, 2)}, []int{2, 8, 0, 6}},
		// what is left of a credit is kept: 5 less 3, and 5 more, are enough for 7
		{deficitOrder(forAll(5)...), []impl.Job{job(0, 7, 3), job(0, 7, 7), job(0, 6, 5), job(0, 6, 5)}, []int{0, 8, 3, 15}},
		{deficitOrder(forAll(5)...), []impl.Job{job(0, 7, 3), job(0, 7, 8), job(0, 6, 5), job(0, 6, 5)}, []int{0, 13, 3, 8}},
	})
}

// A credit is lost when the turn comes to a class and none of it waits, or when the line is free and none
// waits at all, but not at the turns of others.
func TestCreditsAreLost(t *testing.T) {
	// the class 7 has 4 left behind its first job, and at its next turn none waits, or one that is too long
	quanta := []int{1, 1, 1, 1, 1, 1, 40, 5}
	order := deficitOrder(quanta...)
	sixes := deficitOrder(1, 1, 1, 1, 1, 1, 2, 5)
	checkStarts(t, []startsCase{
		{order, []impl.Job{job(0, 7, 1), job(0, 6, 3), job(3, 7, 9), job(3, 0, 2)}, []int{0, 1, 6, 4}},
		{order, []impl.Job{job(0, 7, 1), job(0, 6, 3), job(1, 7, 9), job(3, 0, 2)}, []int{0, 1, 4, 13}},
		{sixes, []impl.Job{job(0, 7, 1), job(2, 7, 9), job(2, 6, 2)}, []int{0, 4, 2}},
		{sixes, []impl.Job{job(0, 7, 1), job(1, 7, 9), job(1, 6, 2), job(1, 6, 2)}, []int{0, 3, 1, 12}},
		{sixes, []impl.Job{job(0, 7, 1), job(2, 7, 9), job(2, 6, 2), job(2, 6, 2)}, []int{0, 4, 2, 13}},
		{sixes, []impl.Job{job(0, 7, 1), job(1, 7, 4), job(1, 6, 2)}, []int{0, 1, 5}},
		{sixes, []impl.Job{job(0, 7, 1), job(1, 7, 5), job(1, 6, 2)}, []int{0, 3, 1}},
		{sixes, []impl.Job{job(0, 7, 1), job(2, 7, 5), job(2, 6, 2)}, []int{0, 2, 7}},
		{sixes, []impl.Job{job(0, 7, 1), job(2, 7, 6), job(2, 6, 2)}, []int{0, 4, 2}},
		// the credit does not grow at each tick at which the line is free
		{sixes, []impl.Job{job(500, 7, 6), job(500, 6, 2)}, []int{502, 500}},
		{sixes, []impl.Job{job(0, 6, 1), job(500, 7, 6), job(500, 6, 2)}, []int{0, 502, 500}},
		// another class than 7 that has the turn when the line is free loses its credit too
		{deficitOrder(1, 1, 40, 5, 1, 1, 1, 1), []impl.Job{job(0, 3, 1), job(2, 3, 9), job(2, 2, 1)}, []int{0, 3, 2}},
		{deficitOrder(1, 1, 40, 5, 1, 1, 1, 1), []impl.Job{job(0, 3, 1), job(1, 3, 4), job(1, 2, 1)}, []int{0, 1, 5}},
		{deficitOrder(1, 1, 40, 5, 1, 1, 1, 1), []impl.Job{job(0, 3, 1), job(2, 3, 5), job(2, 2, 1)}, []int{0, 2, 7}},
	})
}

// For jobs of the length 1, so many jobs are so many ticks.
func TestSharesAreQuantaOfShortJobs(t *testing.T) {
	random := &numbers{47}
	for range 300 {
		jobs, numbers := random.jobs(12, 8, 1), random.forClasses(20)
		turns, ok := impl.TurnStarts(jobs, numbers)
		if !ok {
			t.Fatal("TurnStarts fails")
		}
		deficits, ok := impl.DeficitStarts(jobs, numbers)
		wantInts(t, "DeficitStarts of short jobs", deficits, ok, turns)
	}
}

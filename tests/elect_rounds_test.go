package tests

import (
	"fmt"
	"slices"
	"testing"

	"loop.example/g01176/impl"
)

// wantRounds wants the survivors of names to be these behind all stations, and two messages over each link
// for each round.
func wantRounds(t *testing.T, names []int, behind ...[]int) {
	t.Helper()
	rows, ok := impl.SurvivorsOf(names)
	wantLists(t, fmt.Sprint("SurvivorsOf ", names), rows, ok, append([][]int{rising(len(names))}, behind...))
	messages, ok := impl.RoundMessages(names)
	wantInt(t, fmt.Sprint("RoundMessages ", names), messages, ok, 2*len(names)*len(behind))
}

func TestRoundsExamples(t *testing.T) {
	wantRounds(t, electExample, []int{1})
	wantRounds(t, []int{0, 1}, []int{0}) // each one is the farther one before itself
	wantRounds(t, []int{1, 0}, []int{1})
	wantRounds(t, rising(5), []int{0})
	wantRounds(t, falling(5), []int{1})
	wantRounds(t, rising(12), []int{0})
	wantRounds(t, falling(12), []int{1})
	wantRounds(t, []int{3, 1, 2, 0}, []int{1, 3}, []int{3})
	wantRounds(t, []int{2, 0, 3, 1}, []int{1, 3}, []int{1})
	wantRounds(t, []int{5, 0, 4, 1, 3, 2}, []int{1, 3, 5}, []int{3})
	wantRounds(t, []int{11, 0, 7, 1, 9, 2, 6, 3, 10, 4, 8, 5}, []int{1, 3, 5, 7, 9, 11}, []int{3, 7, 11}, []int{7})
}

// checkRounds compares with the plain walk, at the end of which the last one has the name of the winner.
func checkRounds(t *testing.T, names []int) {
	t.Helper()
	w := walkRounds(names)
	winner, _ := impl.WinnerOf(names)
	if w.last != names[winner] {
		t.Errorf("%v: the last one has the name %d", names, w.last)
	}
	messages, ok := impl.RoundMessages(names)
	wantInt(t, fmt.Sprint("RoundMessages ", names), messages, ok, w.messages)
	wantRounds(t, names, w.survivors[1:]...)
	rows, _ := impl.SurvivorsOf(names)
	for i := 1; i < len(rows); i++ {
		if 2*len(rows[i]) > len(rows[i-1]) {
			t.Errorf("%v: of %v survive %v", names, rows[i-1], rows[i])
		}
	}
}

func TestElectionsByRounds(t *testing.T) {
	for _, names := range edgeNames() {
		checkRounds(t, names)
	}
	for n := 2; n <= 7; n++ {
		everyOrder(n, func(names []int) { checkRounds(t, names) })
	}
	random := &numbers{83}
	for n := 2; n <= impl.MaxStations; n++ {
		for range 200 {
			checkRounds(t, random.names(n))
		}
	}
}

func wantBothWays(t *testing.T, names []int, want int) {
	t.Helper()
	got, ok := impl.BothWays(names)
	wantInt(t, fmt.Sprint("BothWays ", names), got, ok, want)
}

func TestBothWaysExamples(t *testing.T) {
	wantBothWays(t, []int{0, 1}, 4+2+2) // all names, the answers to the winner, and its name round
	wantBothWays(t, []int{1, 0}, 8)
	wantBothWays(t, electExample, 6+3+4+4+3)
	wantBothWays(t, rising(3), 20)
	wantBothWays(t, []int{3, 0, 1, 2}, 8+4+4+4+4)            // names go over all 4 links in the last phase
	wantBothWays(t, []int{3, 1, 2, 0}, 8+4+4+4+4+4)          // 2 goes over 2 links, both ways, up to 3
	wantBothWays(t, rising(5), 10+5+4+4+8+8+5)               // the second phase lets names go over 4 links
	wantBothWays(t, rising(8), 16+8+4+4+8+8+8)               // the name comes round over just as many links
	wantBothWays(t, rising(9), 18+9+4+4+8+8+16+16+9)         // and over one more
	wantBothWays(t, rising(12), 24+12+4+4+8+8+16+16+12)      // though no other one is left
	wantBothWays(t, []int{9, 1, 2, 3, 8, 4}, 12+6+8+6+8+8+6) // 8 is answered from behind
}

// checkBothWays compares with the plain walk of the phases.
func checkBothWays(t *testing.T, names []int) {
	t.Helper()
	w := walkBothWays(names)
	winner, ok := impl.WinnerOf(names)
	wantInt(t, fmt.Sprint("WinnerOf ", names), winner, ok, w.winner)
	wantBothWays(t, names, w.messages)
}

func TestBothWays(t *testing.T) {
	for _, names := range edgeNames() {
		checkBothWays(t, names)
	}
	for n := 2; n <= 7; n++ {
		everyOrder(n, func(names []int) { checkBothWays(t, names) })
	}
	random := &numbers{89}
	for n := 2; n <= impl.MaxStations; n++ {
		for range 100 {
			names := random.names(n)
			for s := range n { // the greatest name is at each station once
				checkBothWays(t, turnedBy(s, names))
			}
		}
	}
}

// Elections are the same wherever one begins to count the stations, and both ways also if links lead the
// other way.
func TestTurnedElections(t *testing.T) {
	random := &numbers{97}
	for n := 2; n <= impl.MaxStations; n++ {
		for range 20 {
			names := random.names(n)
			links, _ := impl.PassedOn(names)
			messages, _ := impl.BothWays(names)
			winner, _ := impl.WinnerOf(names)
			for s := range n {
				turned := turnedBy(s, names)
				wantPassedOn(t, turned, (winner+n-s)%n, turnedBy(s, links)...)
				wantBothWays(t, turned, messages)
				slices.Reverse(turned)
				wantBothWays(t, turned, messages)
			}
		}
	}
}

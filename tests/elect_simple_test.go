package tests

import (
	"fmt"
	"math"
	"math/big"
	"slices"
	"testing"

	"loop.example/g01176/impl"
)

func TestAreNames(t *testing.T) {
	random := &numbers{73}
	lists := edgeNames()
	for n := 2; n <= impl.MaxStations; n++ {
		for range 20 {
			lists = append(lists, random.names(n))
		}
	}
	for _, names := range lists {
		if !impl.AreNames(names) {
			t.Errorf("%v are no names", names)
		}
	}
	for _, names := range notNames() {
		if impl.AreNames(names) {
			t.Errorf("%.200s are names", fmt.Sprint(names))
		}
	}
}

// Names are fine as long as they are within the limits and none is there twice.
func TestLimitsOfNames(t *testing.T) {
	for n := range 30 {
		for _, least := range []int{-2, -1, 0, 1, 500, 1000 - n, 1001 - n, 1002 - n} {
			names := addedTo(least, rising(n))
			want := 2 <= n && n <= 12 && 0 <= least && least+n-1 <= 999
			if impl.AreNames(names) != want {
				t.Errorf("AreNames %v is not %v", names, want)
			}
		}
	}
	for n := 2; n <= impl.MaxStations; n++ {
		for a := range n {
			for b := range n {
				names := falling(n)
				names[a] = names[b]
				if impl.AreNames(names) != (a == b) {
					t.Errorf("AreNames %v is %v", names, a != b)
				}
			}
		}
	}
}

func wantPassedOn(t *testing.T, names []int, winner int, want ...int) {
	t.Helper()
	station, ok := impl.WinnerOf(names)
	wantInt(t, fmt.Sprint("WinnerOf ", names), station, ok, winner)
	links, ok := impl.PassedOn(names)
	wantInts(t, fmt.Sprint("PassedOn ", names), links, ok, want)
	messages, ok := impl.SimpleMessages(names)
	wantInt(t, fmt.Sprint("SimpleMessages ", names), messages, ok, sumOf(want))
}

func TestSimpleElectionExamples(t *testing.T) {
	wantPassedOn(t, electExample, 0, 3, 1, 1)
	wantPassedOn(t, []int{0, 1}, 1, 1, 2)
	wantPassedOn(t, []int{999, 0}, 0, 2, 1)
	wantPassedOn(t, []int{1, 2, 3}, 2, 1, 1, 3)
	wantPassedOn(t, []int{3, 2, 1}, 0, 3, 2, 1)
	wantPassedOn(t, []int{2, 1, 3}, 2, 2, 1, 3)
	wantPassedOn(t, []int{1, 9, 0, 8, 2, 5}, 1, 1, 6, 1, 4, 1, 2)
	wantPassedOn(t, []int{5, 4, 3, 2, 1, 0}, 0, 6, 5, 4, 3, 2, 1)
	wantPassedOn(t, []int{2, 1, 0, 5, 4, 3}, 3, 3, 2, 1, 6, 5, 4)
	wantPassedOn(t, rising(12), 11, 1, 1, 1, 1, 1, 1, 1, 1, 1, 1, 1, 12)
	wantPassedOn(t, falling(12), 0, 12, 11, 10, 9, 8, 7, 6, 5, 4, 3, 2, 1)
	wantPassedOn(t, []int{11, 0, 7, 1, 9, 2, 6, 3, 10, 4, 8, 5}, 0, 12, 1, 2, 1, 4, 1, 2, 1, 4, 1, 2, 1)
}

// checkSimple compares with the plain walk, in which just the winner gets its name back.
func checkSimple(t *testing.T, names []int) {
	t.Helper()
	winners, links := walkSimple(names)
	if len(winners) != 1 || names[winners[0]] != slices.Max(names) {
		t.Errorf("%v: the plain walk has the winners %v", names, winners)
		return
	}
	wantPassedOn(t, names, winners[0], links...)
}

func TestSimpleElection(t *testing.T) {
	for _, names := range edgeNames() {
		checkSimple(t, names)
	}
	for n := 2; n <= 7; n++ {
		everyOrder(n, func(names []int) { checkSimple(t, names) })
	}
	random := &numbers{79}
	for n := 2; n <= impl.MaxStations; n++ {
		for range 100 {
			checkSimple(t, random.names(n))
		}
	}
}

func TestElectionsOfNoNamesFail(t *testing.T) {
	for _, names := range notNames() {
		name := fmt.Sprintf(" of %.200s", fmt.Sprint(names))
		for what, function := range map[string]func([]int) (int, bool){
			"WinnerOf": impl.WinnerOf, "SimpleMessages": impl.SimpleMessages,
			"RoundMessages": impl.RoundMessages, "BothWays": impl.BothWays,
		} {
			got, ok := function(names)
			wantNoInt(t, what+name, got, ok)
		}
		links, ok := impl.PassedOn(names)
		wantNoInts(t, "PassedOn"+name, links, ok)
		if rows, ok := impl.SurvivorsOf(names); ok || len(rows) > 0 {
			t.Errorf("SurvivorsOf%s: %v, %v", name, rows, ok)
		}
	}
}

// The names are worst where they fall behind the first one, and best where they rise.
func TestWorstAndBestNames(t *testing.T) {
	for n := 2; n <= 6; n++ {
		worst, best := []int{}, []int{}
		most, fewest, orders := 0, math.MaxInt, 0
		everyOrder(n, func(names []int) {
			_, links := walkSimple(names)
			orders++
			if messages := sumOf(links); messages > most {
				most, worst = messages, slices.Clone(names)
			}
			if messages := sumOf(links); messages < fewest {
				fewest, best = messages, slices.Clone(names)
			}
		})
		if orders != []int{2, 6, 24, 120, 720}[n-2] || most != n*(n+1)/2 || fewest != 2*n-1 {
			t.Errorf("%d orders of %d names have %d to %d messages", orders, n, fewest, most)
		}
		got, ok := impl.WorstNames(n)
		wantInts(t, fmt.Sprint("WorstNames ", n), got, ok, worst)
		wantInts(t, fmt.Sprint("WorstNames ", n), got, ok, append([]int{0}, falling(n)[:n-1]...))
		got, ok = impl.BestNames(n)
		wantInts(t, fmt.Sprint("BestNames ", n), got, ok, best)
		wantInts(t, fmt.Sprint("BestNames ", n), got, ok, rising(n))
	}
	for _, n := range []int{1, 7, 0, -1, -2, -6, 8, 12, 13, 1<<32 + 2, math.MinInt, math.MaxInt} {
		got, ok := impl.WorstNames(n)
		wantNoInts(t, fmt.Sprint("WorstNames ", n), got, ok)
		got, ok = impl.BestNames(n)
		wantNoInts(t, fmt.Sprint("BestNames ", n), got, ok)
	}
}

func TestSumOfMessagesOfAllOrders(t *testing.T) {
	for n := 2; n <= 8; n++ {
		sum := 0
		everyOrder(n, func(names []int) {
			messages, _ := impl.SimpleMessages(names)
			sum += messages
		})
		got, ok := impl.SumOfMessages(n)
		wantInt(t, fmt.Sprint("SumOfMessages ", n), got, ok, sum)
	}
}

// plainSum is n times n! times the sum of 1 / i over all i in 1..n.
func plainSum(n int64) *big.Rat {
	sum := new(big.Rat)
	for i := int64(1); i <= n; i++ {
		sum.Add(sum, big.NewRat(1, i))
	}
	sum.Mul(sum, new(big.Rat).SetInt(new(big.Int).MulRange(1, n)))
	return sum.Mul(sum, new(big.Rat).SetInt64(n))
}

func TestSumOfMessagesByTheFormula(t *testing.T) {
	for n := 2; n <= 12; n++ {
		sum := plainSum(int64(n))
		if !sum.IsInt() {
			t.Errorf("the formula for %d gives %v", n, sum)
		}
		got, ok := impl.SumOfMessages(n)
		wantInt(t, fmt.Sprint("SumOfMessages ", n), got, ok, int(sum.Num().Int64()))
	}
	for n, want := range map[int]int{2: 6, 3: 33, 4: 200, 12: 17837314560} {
		got, ok := impl.SumOfMessages(n)
		wantInt(t, fmt.Sprint("SumOfMessages ", n), got, ok, want)
	}
	for _, n := range []int{1, 13, 0, -1, -2, -12, 14, 20, 21, 100, 1<<32 + 2, math.MinInt, math.MaxInt} {
		got, ok := impl.SumOfMessages(n)
		wantNoInt(t, fmt.Sprint("SumOfMessages ", n), got, ok)
	}
}

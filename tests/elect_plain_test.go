package tests

import (
	"math"
	"slices"

	"loop.example/g01176/impl"
)

// electExample are the names of the document's example.
var electExample = []int{3, 1, 2}

// rising are the names 0, 1, .., n - 1.
func rising(n int) []int {
	return multiplesOf(1, 0, n-1)
}

func falling(n int) []int {
	names := rising(n)
	slices.Reverse(names)
	return names
}

// turnedBy returns a list whose first elements are at its end.
func turnedBy(by int, list []int) []int {
	return slices.Concat(list[by:], list[:by])
}

// greatestAt is a list of n names in another order than rising or falling ones, the greatest of which the
// station s has.
func greatestAt(n, s int) []int {
	names := make([]int, n)
	for i := range names {
		names[(s+i)%n] = impl.MaxName - i*5%13 // all different, as there are at most 12
	}
	return names
}

// names are so many different numbers.
func (n *numbers) names(count int) []int {
	var names []int
	for len(names) < count {
		if name := n.below(impl.MaxName + 1); !slices.Contains(names, name) {
			names = append(names, name)
		}
	}
	return names
}

// edgeNames are lists of the least and the greatest numbers of stations, with the least and the greatest
// names, rising and falling ones, from each station on, and the greatest one at each station.
func edgeNames() [][]int {
	lists := [][]int{
		electExample, {0, 1}, {1, 0}, {0, 999}, {999, 0}, {998, 999}, {500, 0, 999}, {0, 999, 1}, {999, 1, 0},
		{5, 0, 4, 1, 3, 2}, {11, 0, 7, 1, 9, 2, 6, 3, 10, 4, 8, 5}, {999, 0, 998, 1, 997, 2, 996, 3, 995, 4, 994, 5},
	}
	for n := 2; n <= impl.MaxStations; n++ {
		for s := range n {
			lists = append(lists, turnedBy(s, rising(n)), turnedBy(s, falling(n)), greatestAt(n, s))
		}
	}
	return lists
}

func notNames() [][]int {
	long := append(rising(12), 999)
	lists := [][]int{
		nil, {}, {0}, {5}, {999}, {0, 0}, {5, 5}, {999, 999}, {-1, 0}, {0, -1}, {1000, 0}, {0, 1000}, {-1, 1000}, {3, 1, -2},
		{3, 1, 3}, {1, 3, 3}, {3, 3, 1}, {1, 2, 3, 1}, {4, 3, 2, 4, 1}, {4, 3, 2, 1, 2},
		{math.MinInt, 0}, {math.MaxInt, 0}, {0, 1, math.MaxInt}, {math.MinInt, math.MaxInt}, {1 << 32, 0}, {0, 1<<32 + 1},
		long, rising(13), falling(13), multiplesOf(9, 100, 112), rising(24), rising(1000), zeros(12), zeros(13), zeros(5000),
	}
	for _, name := range []int{-1, 1000, 0, 10, 1 << 40} { // the last station has it, or the first one
		lists = append(lists, append(rising(11), name), append([]int{name}, rising(11)...))
	}
	return slices.DeleteFunc(lists, func(list []int) bool {
		return slices.Equal(list, rising(12)) // none of them
	})
}

// everyOrder calls see with all orders of the names 0, 1, .., n - 1, in lexicographic order.
func everyOrder(n int, see func(names []int)) {
	names := make([]int, 0, n)
	var extend func()
	extend = func() {
		if len(names) == n {
			see(names)
		}
		for name := range n {
			if !slices.Contains(names, name) {
				names = append(names, name)
				extend()
				names = names[:len(names)-1]
			}
		}
	}
	extend()
}

// plainName is a name that is underway: it is at a station and is to go on.
type plainName struct{ name, of, at int }

// walkSimple lets names go on, one link after the other, until all are taken out or back. It tells who gets
// its own name, and over how many links the name of each station is sent.
func walkSimple(names []int) (winners []int, links []int) {
	links = zeros(len(names))
	var underway []plainName
	for s, name := range names {
		underway = append(underway, plainName{name, s, s})
	}
	for ; len(underway) > 0; underway = underway[1:] {
		sent := underway[0]
		links[sent.of]++
		sent.at++
		if sent.at == len(names) {
			sent.at = 0
		}
		if names[sent.at] == sent.name {
			winners = append(winners, sent.at)
		} else if names[sent.at] < sent.name {
			underway = append(underway, sent)
		}
	}
	return winners, links
}

// plainRounds is what one writes down who follows the election by rounds.
type plainRounds struct {
	survivors [][]int // before each round, and behind the last one
	messages  int
	last      int // the name that the last one has
}

func walkRounds(names []int) plainRounds {
	var w plainRounds
	have := slices.Clone(names)
	survives := slices.Repeat([]bool{true}, len(names))
	for {
		var stations []int
		for s := range names {
			if survives[s] {
				stations = append(stations, s)
			}
		}
		w.survivors = append(w.survivors, stations)
		if len(stations) == 1 {
			w.last = have[stations[0]]
			return w
		}
		nearer, first := sendOn(survives, have)
		farther, second := sendOn(survives, nearer)
		w.messages += first + second
		for _, s := range stations {
			survives[s] = nearer[s] > farther[s] && nearer[s] > have[s]
			have[s] = nearer[s]
		}
	}
}

// sendOn lets what each survivor has go over the links to the next survivor. It tells what each one gets and
// over how many links all have gone.
func sendOn(survives []bool, have []int) (got []int, links int) {
	got = zeros(len(have))
	for s := range have {
		if !survives[s] {
			continue
		}
		at := s
		for links++; !survives[(at+1)%len(have)]; links++ {
			at++
		}
		got[(at+1)%len(have)] = have[s]
	}
	return got, links
}

// plainBothWays is an election both ways, phase by phase.
type plainBothWays struct {
	names    []int
	survives []bool
	messages int
	winner   int
	over     bool // the winner's name has come back
}

func walkBothWays(names []int) plainBothWays {
	w := plainBothWays{names: names, survives: slices.Repeat([]bool{true}, len(names))}
	for most := 1; !w.over; most += most {
		w.pass(most)
	}
	return w
}

// pass lets one phase pass.
func (w *plainBothWays) pass(most int) {
	answers := zeros(len(w.names))
	for s := range w.names {
		if w.survives[s] && !w.over {
			answers[s] += w.sendName(s, 1, most)
		}
		if w.survives[s] && !w.over {
			answers[s] += w.sendName(s, -1, most)
		}
	}
	for s := range w.names {
		w.survives[s] = answers[s] == 2
	}
}

// sendName lets the name of a station go in one direction, and its answer back. It returns the number of
// answers that it gets: 1 or 0.
func (w *plainBothWays) sendName(s, direction, most int) int {
	at := s
	for gone := 1; gone <= most; gone++ {
		at += direction
		if at == len(w.names) {
			at = 0
		}
		if at < 0 {
			at = len(w.names) - 1
		}
		w.messages++
		if at == s {
			w.winner, w.over = s, true
			return 0
		}
		if w.names[at] > w.names[s] {
			return 0
		}
	}
	for at != s {
		at -= direction
		if at == len(w.names) {
			at = 0
		}
		if at < 0 {
			at = len(w.names) - 1
		}
		w.messages++
	}
	return 1
}

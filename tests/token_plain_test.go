package tests

import (
	"fmt"
	"math"
	"slices"
	"testing"

	"loop.example/g01176/impl"
)

// exampleTokenRing and exampleCalls are those of the document's example.
var exampleTokenRing = tokenRing(3, 1, 1)

var exampleCalls = []impl.Call{call(0, 1, 0), call(0, 2, 0), call(0, 2, 1)}

func tokenRing(stations, hold, walk int) impl.TokenRing {
	return impl.TokenRing{Stations: stations, Hold: hold, Walk: walk}
}

func call(tick, from, to int) impl.Call {
	return impl.Call{Tick: tick, From: from, To: to}
}

// callsAt are so many calls at a tick from one station to another one.
func callsAt(n, tick, from, to int) []impl.Call {
	return slices.Repeat([]impl.Call{call(tick, from, to)}, n)
}

// edgeTokenRings have the least and the greatest of all numbers, and some between.
func edgeTokenRings() []impl.TokenRing {
	var rings []impl.TokenRing
	for _, stations := range []int{2, 3, 5, 12} {
		for _, hold := range []int{1, 2, 10} {
			for _, walk := range []int{1, 3, 10} {
				rings = append(rings, tokenRing(stations, hold, walk))
			}
		}
	}
	return rings
}

func notTokenRings() []impl.TokenRing {
	return []impl.TokenRing{
		{}, tokenRing(1, 1, 1), tokenRing(0, 1, 1), tokenRing(-1, 1, 1), tokenRing(-3, 1, 1), tokenRing(13, 1, 1),
		tokenRing(3, 0, 1), tokenRing(3, -1, 1), tokenRing(3, 11, 1), tokenRing(3, 1, 0), tokenRing(3, 1, -1), tokenRing(3, 1, 11),
		tokenRing(2, 10, 11), tokenRing(12, 11, 10), tokenRing(13, 10, 10), tokenRing(3, 0, 0), tokenRing(0, 0, 0), tokenRing(-3, -1, -1),
		tokenRing(math.MinInt, 1, 1), tokenRing(math.MaxInt, 1, 1), tokenRing(3, math.MinInt, 1), tokenRing(3, math.MaxInt, 1),
		tokenRing(3, 1, math.MinInt), tokenRing(3, 1, math.MaxInt), tokenRing(1<<32+3, 1, 1), tokenRing(3, 1<<32+1, 1), tokenRing(3, 1, 1<<32+1),
	}
}

// notCallsOf are lists that are no calls for a ring.
func notCallsOf(r impl.TokenRing) [][]impl.Call {
	n := r.Stations
	return [][]impl.Call{
		{call(-1, 0, 1)}, {call(1001, 0, 1)}, {call(math.MinInt, 0, 1)}, {call(math.MaxInt, 0, 1)}, {call(1<<32, 0, 1)},
		{call(0, -1, 1)}, {call(0, n, 1)}, {call(0, n+1, 1)}, {call(0, math.MinInt, 1)}, {call(0, math.MaxInt, 1)}, {call(0, 1<<32, 1)},
		{call(0, 0, -1)}, {call(0, 0, n)}, {call(0, 0, n+1)}, {call(0, 0, math.MinInt)}, {call(0, 0, math.MaxInt)}, {call(0, 0, 1<<32)},
		{call(0, 1, 0), call(0, 1, 0), call(0, n, 0)}, {call(0, 1, 0), call(0, 1, 0), call(0, 0, n)}, {call(3, 0, 0), call(1001, 0, 0)},
		{call(1, 0, 1), call(0, 0, 1)}, {call(1, 0, 1), call(0, 1, 0)}, {call(0, 0, 1), call(7, 0, 1), call(6, 1, 1), call(8, 0, 1)},
		{call(1000, 0, 1), call(999, 1, 0)}, {call(5, 0, 0), call(5, 0, 0), call(4, 0, 0)}, {call(0, 0, 0), call(-1, 0, 0)},
		callsAt(21, 0, 0, 1), callsAt(21, 1000, 1, 0), callsAt(5000, 3, 1, 1), append(callsAt(20, 3, 1, 1), call(0, 0, 0)),
		append(callsAt(19, 3, 1, 1), call(2, 0, 0)), append(callsAt(19, 3, 1, 1), call(3, 0, n)), append(callsAt(19, 3, 1, 1), call(3, -1, 0)),
	}
}

// edgeCallsOf are calls for a ring: none, as many as there may be, at one station, tick, and in other ways alike.
func edgeCallsOf(r impl.TokenRing) [][]impl.Call {
	last, round := r.Stations-1, r.Stations*r.Walk
	lists := [][]impl.Call{
		nil,
		{call(0, 0, 0)}, {call(0, last, last)}, {call(1, 0, 1)}, {call(impl.MaxTick, 0, last)}, {call(impl.MaxTick, last, 0)},
		callsAt(impl.MaxCalls, 0, 0, 1), callsAt(impl.MaxCalls, 0, last, last), callsAt(impl.MaxCalls, impl.MaxTick, 1, 0),
		callsAt(impl.MaxCalls, 500, 1, 1),
		// the token comes at the first tick, at the next one a frame may be sent
		{call(round, 0, 0), call(round, 0, 1), call(round+1, 0, 0), call(round+2, 0, 0), call(round+2, 1, 0)},
		{call(r.Walk-1, 1, 0), call(r.Walk, 1, 0), call(r.Walk+1, 1, 0), call(r.Walk+2, 1, 0), call(r.Walk+3, 1, 0)},
		append(callsAt(10, 0, 0, 0), callsAt(10, impl.MaxTick, 0, 0)...),
	}
	var around, mixed []impl.Call
	for i := range impl.MaxCalls {
		around = append(around, call(7, i%r.Stations, (i*5)%r.Stations))
		mixed = append(mixed, call(i*3, (i*i)%r.Stations, (i*7)%r.Stations))
	}
	return append(lists, around, mixed)
}

// plainWalk is what one writes down who looks at a ring with a token tick by tick.
type plainWalk struct {
	visits  [][]int // the tick, the station, and how many frames it sends
	sent    []int   // for each call the tick at which its frame begins
	order   []int   // the calls as they begin
	holder  []int   // for each tick the station that has the token, or -1
	backlog [][]int // for each tick and station how many frames wait behind its beginning
}

// walkPlainly goes on until all calls are sent, MaxTick is over, and more than 100 visits are made.
func walkPlainly(r impl.TokenRing, calls []impl.Call) plainWalk {
	w := plainWalk{sent: slices.Repeat([]int{-1}, len(calls))}
	queues := make([][]int, r.Stations)
	station, away := -1, 1 // so many ticks before the token comes to the next station
	var held []int         // the frames that are still to be sent at this visit
	for tick := 0; tick <= impl.MaxTick || slices.Contains(w.sent, -1) || len(w.visits) <= 100; tick++ {
		for i, c := range calls {
			if c.Tick == tick {
				queues[c.From] = append(queues[c.From], i)
			}
		}
		holder := -1
		if away > 0 {
			away--
			if away == 0 {
				station = (station + 1) % r.Stations
				held = queues[station][:min(len(queues[station]), r.Hold)]
				w.visits = append(w.visits, []int{tick, station, len(held)})
				if len(held) == 0 {
					holder, away = station, r.Walk
				}
			}
		}
		if len(held) > 0 {
			holder = station
			w.sent[held[0]] = tick
			w.order = append(w.order, held[0])
			held, queues[station] = held[1:], queues[station][1:]
			if len(held) == 0 {
				away = 1 + r.Walk // it walks when this tick is over
			}
		}
		w.holder = append(w.holder, holder)
		w.backlog = append(w.backlog, lengthsOf(queues))
	}
	return w
}

func lengthsOf(lists [][]int) []int {
	lengths := make([]int, len(lists))
	for i, list := range lists {
		lengths[i] = len(list)
	}
	return lengths
}

func textOfCalls(r impl.TokenRing, calls []impl.Call) string {
	return fmt.Sprint(r, calls)
}

func wantVisits(t *testing.T, name string, got [][]int, ok bool, want [][]int) {
	t.Helper()
	if !ok || !slices.EqualFunc(got, want, slices.Equal[[]int]) {
		t.Errorf("%s: got %v, %v, want %v", name, got, ok, want)
	}
}

// everyCalls calls see with all lists of n calls at ticks up to last, to the stations before them.
func everyCalls(r impl.TokenRing, n, last int, see func(calls []impl.Call)) {
	calls := make([]impl.Call, 0, n)
	var extend func(first int)
	extend = func(first int) {
		if len(calls) == n {
			see(calls)
			return
		}
		for tick := first; tick <= last; tick++ {
			for s := range r.Stations {
				calls = append(calls, call(tick, s, (s+r.Stations-1)%r.Stations))
				extend(tick)
				calls = calls[:len(calls)-1]
			}
		}
	}
	extend(0)
}

func (n *numbers) tokenRing() impl.TokenRing {
	return tokenRing(2+n.below(11), 1+n.below(10), 1+n.below(10))
}

// calls are up to MaxCalls for a ring, within so many ticks.
func (n *numbers) calls(r impl.TokenRing, ticks int) []impl.Call {
	begins := n.list(n.below(impl.MaxCalls+1), ticks)
	slices.Sort(begins)
	var calls []impl.Call
	for _, tick := range begins {
		calls = append(calls, call(tick, n.below(r.Stations), n.below(r.Stations)))
	}
	return calls
}

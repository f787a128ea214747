package tests

import (
	"fmt"
	"slices"
	"testing"

	"loop.example/g01176/impl"
)

func TestTokenExample(t *testing.T) {
	sent, ok := impl.SentAt(exampleTokenRing, exampleCalls)
	wantInts(t, "SentAt", sent, ok, []int{1, 3, 7})
	arrived, ok := impl.ArrivedAt(exampleTokenRing, exampleCalls)
	wantInts(t, "ArrivedAt", arrived, ok, []int{2, 4, 8})
	visits, ok := impl.VisitsOf(exampleTokenRing, exampleCalls, 6)
	wantVisits(t, "VisitsOf", visits, ok, [][]int{{0, 0, 0}, {1, 1, 1}, {3, 2, 1}, {5, 0, 0}, {6, 1, 0}, {7, 2, 1}})
	wait, ok := impl.LongestWait(exampleTokenRing, exampleCalls)
	wantInt(t, "LongestWait", wait, ok, 7)
	rest, ok := impl.RestAt(exampleTokenRing, exampleCalls)
	wantInt(t, "RestAt", rest, ok, 8)
	order, ok := impl.OrderOfArrival(exampleTokenRing, exampleCalls)
	wantInts(t, "OrderOfArrival", order, ok, []int{0, 1, 2})
	for tick, want := range []int{0, 1, -1, 2, -1, 0, 1, 2, -1, 0, 1, 2, 0} {
		wantTokenAt(t, exampleTokenRing, exampleCalls, tick, want)
	}
	for tick, want := range [][]int{{0, 1, 2}, {0, 0, 2}, {0, 0, 2}, {0, 0, 1}, {0, 0, 1}, {0, 0, 1}, {0, 0, 1}, {0, 0, 0}} {
		got, ok := impl.BacklogAt(exampleTokenRing, exampleCalls, tick)
		wantInts(t, fmt.Sprint("BacklogAt ", tick), got, ok, want)
	}
}

// wantTokenAt wants the token at a station, or a failure for -1.
func wantTokenAt(t *testing.T, r impl.TokenRing, calls []impl.Call, tick, want int) {
	t.Helper()
	name := fmt.Sprint("TokenAt ", tick, " of ", textOfCalls(r, calls))
	got, ok := impl.TokenAt(r, calls, tick)
	if want < 0 {
		wantNoInt(t, name, got, ok)
	} else {
		wantInt(t, name, got, ok, want)
	}
}

// A call at the tick at which the token comes is sent at once; one tick later, and while a frame is sent,
// it waits for the next visit.
func TestCallsAroundAVisit(t *testing.T) {
	for _, c := range []struct {
		ring  impl.TokenRing
		calls []impl.Call
		sent  []int
	}{
		{tokenRing(2, 1, 1), []impl.Call{call(0, 0, 1)}, []int{0}},
		{tokenRing(2, 1, 1), []impl.Call{call(1, 0, 1)}, []int{2}},
		{tokenRing(2, 1, 1), []impl.Call{call(1, 1, 0)}, []int{1}},
		{tokenRing(2, 1, 1), []impl.Call{call(2, 1, 0)}, []int{3}},
		{tokenRing(3, 2, 4), []impl.Call{call(4, 1, 1)}, []int{4}},
		{tokenRing(3, 2, 4), []impl.Call{call(5, 1, 1)}, []int{16}},
		{tokenRing(3, 2, 4), []impl.Call{call(11, 0, 1)}, []int{12}},
		{tokenRing(3, 2, 4), []impl.Call{call(12, 0, 1)}, []int{12}},
		{tokenRing(3, 2, 4), []impl.Call{call(13, 0, 1)}, []int{24}},
		{tokenRing(3, 3, 4), []impl.Call{call(4, 1, 0), call(4, 1, 0), call(4, 1, 0)}, []int{4, 5, 6}},
		{tokenRing(3, 3, 4), []impl.Call{call(4, 1, 0), call(4, 1, 0), call(5, 1, 0)}, []int{4, 5, 18}},
		{tokenRing(3, 3, 4), []impl.Call{call(4, 1, 0), call(5, 1, 0), call(6, 1, 0)}, []int{4, 17, 18}},
		{tokenRing(3, 1, 4), []impl.Call{call(4, 1, 0), call(4, 1, 0), call(4, 1, 0)}, []int{4, 17, 30}},
		{tokenRing(3, 2, 4), []impl.Call{call(4, 1, 0), call(4, 1, 0), call(4, 1, 0)}, []int{4, 5, 18}},
		{tokenRing(3, 10, 4), []impl.Call{call(3, 1, 0), call(4, 1, 0), call(5, 1, 0)}, []int{4, 5, 18}},
		{tokenRing(3, 1, 1), []impl.Call{call(0, 0, 0), call(0, 0, 0), call(1, 1, 1), call(2, 1, 1), call(3, 1, 1)}, []int{0, 5, 2, 7, 11}},
	} {
		got, ok := impl.SentAt(c.ring, c.calls)
		wantInts(t, "SentAt "+textOfCalls(c.ring, c.calls), got, ok, c.sent)
	}
}

func TestFullQueues(t *testing.T) {
	for _, c := range []struct {
		ring  impl.TokenRing
		calls []impl.Call
		sent  func(i int) int
	}{
		{tokenRing(2, 1, 1), callsAt(20, 0, 0, 1), func(i int) int { return 3 * i }},
		{tokenRing(2, 10, 1), callsAt(20, 0, 0, 1), func(i int) int { return i/10*12 + i%10 }},
		{tokenRing(2, 1, 10), callsAt(20, 0, 0, 0), func(i int) int { return 21 * i }},
		{tokenRing(2, 10, 10), callsAt(20, 0, 1, 0), func(i int) int { return 10 + i/10*30 + i%10 }},
		{tokenRing(12, 1, 1), callsAt(20, 0, 11, 11), func(i int) int { return 11 + 13*i }},
		{tokenRing(12, 1, 10), callsAt(20, 0, 0, 11), func(i int) int { return 121 * i }},
		{tokenRing(12, 10, 10), callsAt(20, 0, 11, 0), func(i int) int { return 110 + i/10*130 + i%10 }},
		{tokenRing(12, 10, 1), callsAt(20, 1000, 0, 0), func(i int) int { return 1008 + i/10*22 + i%10 }},
		{tokenRing(12, 1, 10), callsAt(20, 1000, 4, 0), func(i int) int { return 1000 + 121*i }},
		{tokenRing(2, 3, 7), callsAt(20, 1000, 1, 1), func(i int) int { return 1001 + i/3*17 + i%3 }},
	} {
		name := textOfCalls(c.ring, c.calls)
		var sent, arrived, order []int
		for i := range c.calls {
			sent, arrived, order = append(sent, c.sent(i)), append(arrived, c.sent(i)+1), append(order, i)
		}
		got, ok := impl.SentAt(c.ring, c.calls)
		wantInts(t, "SentAt "+name, got, ok, sent)
		got, ok = impl.ArrivedAt(c.ring, c.calls)
		wantInts(t, "ArrivedAt "+name, got, ok, arrived)
		got, ok = impl.OrderOfArrival(c.ring, c.calls)
		wantInts(t, "OrderOfArrival "+name, got, ok, order)
		rest, ok := impl.RestAt(c.ring, c.calls)
		wantInt(t, "RestAt "+name, rest, ok, c.sent(19)+1)
		wait, ok := impl.LongestWait(c.ring, c.calls)
		wantInt(t, "LongestWait "+name, wait, ok, c.sent(19)-c.calls[0].Tick)
	}
}

// Without calls a token goes round in steps of Walk, and behind 100 visits it comes to the next station.
func TestNoCalls(t *testing.T) {
	for _, r := range edgeTokenRings() {
		for _, none := range [][]impl.Call{nil, {}} {
			name := textOfCalls(r, none)
			visits, ok := impl.VisitsOf(r, none, 100)
			var want [][]int
			for k := range 100 {
				want = append(want, []int{k * r.Walk, k % r.Stations, 0})
			}
			wantVisits(t, "VisitsOf "+name, visits, ok, want)
			visits, ok = impl.VisitsOf(r, none, 0)
			wantVisits(t, "VisitsOf "+name, visits, ok, nil)
			for _, function := range []func(impl.TokenRing, []impl.Call) ([]int, bool){impl.SentAt, impl.ArrivedAt, impl.OrderOfArrival} {
				list, ok := function(r, none)
				wantInts(t, "calls of "+name, list, ok, nil)
			}
			for _, function := range []func(impl.TokenRing, []impl.Call) (int, bool){impl.LongestWait, impl.RestAt} {
				number, ok := function(r, none)
				wantInt(t, "ticks of "+name, number, ok, 0)
			}
			for _, tick := range []int{0, 1, r.Walk, 360, 361, impl.MaxTick - 1, impl.MaxTick} {
				station := -1
				if tick%r.Walk == 0 {
					station = tick / r.Walk % r.Stations
				}
				wantTokenAt(t, r, none, tick, station)
				backlog, ok := impl.BacklogAt(r, none, tick)
				wantInts(t, fmt.Sprint("BacklogAt ", tick, " of ", name), backlog, ok, zeros(r.Stations))
			}
		}
	}
}

// 100 visits are as many rounds on rings whose stations divide 100, and the token is behind them at the
// station 0 again.
func TestVisitsOfWholeRounds(t *testing.T) {
	for _, r := range []impl.TokenRing{tokenRing(2, 1, 1), tokenRing(4, 2, 3), tokenRing(5, 10, 10), tokenRing(10, 1, 10)} {
		calls := []impl.Call{call(0, 0, 1), call(0, 1, 1), call(0, 1, 0)}
		visits, ok := impl.VisitsOf(r, calls, 100)
		if !ok || len(visits) != 100 || visits[99][1] != r.Stations-1 {
			t.Errorf("VisitsOf %v: %v, %v", r, visits, ok)
			continue
		}
		comes := visits[99][0] + r.Walk
		if want := 100*r.Walk + 3; comes != want {
			t.Errorf("VisitsOf %v: the token comes again at %d, want %d", r, comes, want)
		}
		if comes <= impl.MaxTick {
			wantTokenAt(t, r, calls, comes, 0)
		}
	}
}

func TestTokenAtEdges(t *testing.T) {
	r := tokenRing(3, 2, 4)
	calls := []impl.Call{call(0, 1, 1), call(0, 1, 1), call(0, 1, 1), call(18, 0, 2)}
	for tick, want := range map[int]int{
		0: 0, 1: -1, 3: -1, // nothing is sent
		4: 1, 5: 1, 6: -1, 9: -1, // two frames
		10: 2, 11: -1, 13: -1, 14: 0, 15: -1, 17: -1,
		18: 1, 19: -1, 22: -1, // one frame, and it walks from 19 on
		23: 2, 24: -1, 27: 0, 28: -1, 31: -1, 32: 1, 33: -1,
	} {
		wantTokenAt(t, r, calls, tick, want)
	}
	full := append(callsAt(10, 999, 1, 0), callsAt(10, 1000, 0, 1)...)
	for tick, want := range map[int]int{0: 0, 1: 1, 999: 1, 1000: 1} {
		wantTokenAt(t, tokenRing(2, 10, 1), full, tick, want)
	}
	wantTokenAt(t, tokenRing(2, 10, 1), full[10:], 1000, 0)
	wantTokenAt(t, tokenRing(2, 10, 1), []impl.Call{call(998, 0, 0)}, 1000, 1)
	wantTokenAt(t, tokenRing(2, 10, 1), []impl.Call{call(999, 1, 0)}, 1000, -1)
	wantTokenAt(t, tokenRing(2, 10, 1), []impl.Call{call(1000, 1, 0)}, 1000, 0)
}

func TestBacklogAtEdges(t *testing.T) {
	r := tokenRing(2, 2, 3)
	calls := []impl.Call{call(0, 1, 0), call(0, 1, 0), call(0, 1, 0), call(3, 1, 1), call(5, 0, 0)}
	for tick, want := range map[int][]int{
		0: {0, 3}, 2: {0, 3}, 3: {0, 3}, 4: {0, 2}, 5: {1, 2}, 7: {1, 2}, 8: {0, 2}, 11: {0, 2}, 12: {0, 1}, 13: {0, 0}, 1000: {0, 0},
	} {
		got, ok := impl.BacklogAt(r, calls, tick)
		wantInts(t, fmt.Sprint("BacklogAt ", tick), got, ok, want)
	}
	got, ok := impl.BacklogAt(r, callsAt(20, 1000, 0, 1), 1000)
	wantInts(t, "BacklogAt MaxTick", got, ok, []int{20, 0})
	got, ok = impl.BacklogAt(r, callsAt(20, 1000, 0, 1), 999)
	wantInts(t, "BacklogAt before MaxTick", got, ok, []int{0, 0})
	got, ok = impl.BacklogAt(r, callsAt(20, 0, 0, 1), 0)
	wantInts(t, "BacklogAt 0", got, ok, []int{19, 0})
	got, ok = impl.BacklogAt(tokenRing(12, 1, 10), callsAt(20, 0, 11, 1), 1000)
	wantInts(t, "BacklogAt MaxTick", got, ok, []int{0, 0, 0, 0, 0, 0, 0, 0, 0, 0, 0, 12})
}

// checkWalk compares what the program tells of calls with a plain walk.
func checkWalk(t *testing.T, r impl.TokenRing, calls []impl.Call, ticks ...int) {
	t.Helper()
	w := walkPlainly(r, calls)
	name := textOfCalls(r, calls)
	sent, ok := impl.SentAt(r, calls)
	wantInts(t, "SentAt "+name, sent, ok, w.sent)
	wait, rest := 0, 0
	var arrived []int
	for i, tick := range w.sent {
		arrived = append(arrived, tick+1)
		wait, rest = max(wait, tick-calls[i].Tick), max(rest, tick+1)
	}
	got, ok := impl.ArrivedAt(r, calls)
	wantInts(t, "ArrivedAt "+name, got, ok, arrived)
	got, ok = impl.OrderOfArrival(r, calls)
	wantInts(t, "OrderOfArrival "+name, got, ok, w.order)
	number, ok := impl.LongestWait(r, calls)
	wantInt(t, "LongestWait "+name, number, ok, wait)
	number, ok = impl.RestAt(r, calls)
	wantInt(t, "RestAt "+name, number, ok, rest)
	for _, n := range []int{0, 1, r.Stations, 100} {
		visits, ok := impl.VisitsOf(r, calls, n)
		wantVisits(t, fmt.Sprint("VisitsOf ", n, " of ", name), visits, ok, w.visits[:n])
	}
	for _, tick := range ticks {
		wantTokenAt(t, r, calls, tick, w.holder[tick])
		backlog, ok := impl.BacklogAt(r, calls, tick)
		wantInts(t, fmt.Sprint("BacklogAt ", tick, " of ", name), backlog, ok, w.backlog[tick])
	}
	checkWaits(t, r, calls, sent)
	checkHolds(t, r, calls, sent)
}

// checkWaits compares waits with WaitBound: ahead of a call are the earlier ones of its station that begin
// at its tick or later. At each station frames begin in the order of the queue.
func checkWaits(t *testing.T, r impl.TokenRing, calls []impl.Call, sent []int) {
	t.Helper()
	for i, c := range calls {
		ahead := 0
		for j := range i {
			if calls[j].From == c.From && sent[j] >= c.Tick {
				ahead++
			}
			if calls[j].From == c.From && sent[j] >= sent[i] {
				t.Errorf("%s: %d begins at %d, %d at %d", textOfCalls(r, calls), j, sent[j], i, sent[i])
			}
		}
		bound, ok := impl.WaitBound(r, ahead)
		if wait := sent[i] - c.Tick; !ok || wait < 0 || wait > bound {
			t.Errorf("%s: %d waits %d ticks with %d ahead, bound %d, %v", textOfCalls(r, calls), i, wait, ahead, bound, ok)
		}
	}
}

// checkHolds wants the token to go round in order, and all frames that begin from one visit to the next one
// to be of its station and called by then: as many as wait, but at most Hold.
func checkHolds(t *testing.T, r impl.TokenRing, calls []impl.Call, sent []int) {
	t.Helper()
	visits, _ := impl.VisitsOf(r, calls, 100)
	for k := 1; k < len(visits); k++ {
		v, next := visits[k-1], visits[k]
		begun, waiting := 0, 0
		for i, c := range calls {
			if v[0] <= sent[i] && sent[i] < next[0] {
				begun++
				if c.From != v[1] || c.Tick > v[0] || sent[i] >= v[0]+v[2] {
					t.Errorf("%s: %d begins at %d, behind the visit %v", textOfCalls(r, calls), i, sent[i], v)
				}
			}
			if c.From == v[1] && c.Tick <= v[0] && v[0] <= sent[i] {
				waiting++
			}
		}
		if begun != v[2] || begun != min(waiting, r.Hold) {
			t.Errorf("%s: the visit %v, at which %d of %d frames begin", textOfCalls(r, calls), v, begun, waiting)
		}
		if next[0] != v[0]+v[2]+r.Walk || next[1] != (v[1]+1)%r.Stations {
			t.Errorf("%s: the visit %v behind %v", textOfCalls(r, calls), next, v)
		}
	}
}

func TestWalksOfEdges(t *testing.T) {
	for _, r := range edgeTokenRings() {
		for _, calls := range edgeCallsOf(r) {
			ticks := []int{0, 1, 2, r.Walk - 1, r.Walk, r.Walk + 1, r.Walk + 2, 500, 501, 502, impl.MaxTick - 1, impl.MaxTick}
			if sent, ok := impl.SentAt(r, calls); ok && len(calls) > 0 {
				last := slices.Max(sent)
				ticks = append(ticks, last-1, last, last+1, last+2)
			}
			checkWalk(t, r, calls, slices.DeleteFunc(ticks, func(tick int) bool { return tick < 0 || tick > impl.MaxTick })...)
		}
	}
}

func TestWalksOfAllTicks(t *testing.T) {
	every := make([]int, impl.MaxTick+1)
	for tick := range every {
		every[tick] = tick
	}
	random := &numbers{3}
	for _, r := range []impl.TokenRing{tokenRing(2, 1, 1), tokenRing(3, 2, 4), tokenRing(12, 1, 10)} {
		checkWalk(t, r, random.calls(r, 200), every...)
	}
}

func TestWalksOfAllFewCalls(t *testing.T) {
	ticks := []int{0, 1, 2, 3, 4, 5, 6, 7, 8, 9, 10}
	for _, r := range []impl.TokenRing{tokenRing(2, 1, 1), tokenRing(2, 2, 1), tokenRing(2, 1, 2), tokenRing(3, 2, 1)} {
		for n := range 3 {
			everyCalls(r, n, 7, func(calls []impl.Call) { checkWalk(t, r, calls, ticks...) })
		}
		everyCalls(r, 3, 3, func(calls []impl.Call) { checkWalk(t, r, calls, ticks...) })
	}
}

func TestWalksOfManyCalls(t *testing.T) {
	random := &numbers{17}
	for i := range 500 {
		r := random.tokenRing()
		calls := random.calls(r, []int{1, 10, 100, impl.MaxTick + 1}[i%4])
		checkWalk(t, r, calls, random.list(5, impl.MaxTick+1)...)
	}
	for range 300 { // small rings, on which frames meet often
		r := tokenRing(2+random.below(3), 1+random.below(3), 1+random.below(2))
		checkWalk(t, r, random.calls(r, 40), random.list(10, 100)...)
	}
}

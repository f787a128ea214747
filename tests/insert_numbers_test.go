package tests

import (
	"fmt"
	"slices"
	"testing"

	"loop.example/g01176/impl"
)

func TestIsInsertRing(t *testing.T) {
	for stations := -15; stations <= 30; stations++ {
		for room := -25; room <= 45; room++ {
			want := 2 <= stations && stations <= 12 && 1 <= room && room <= 20
			for _, r := range []impl.InsertRing{insertRing(stations, room), insertRingOwn(stations, room)} {
				if got := impl.IsInsertRing(r); got != want {
					t.Errorf("IsInsertRing %v is %v", r, got)
				}
			}
		}
	}
	for _, r := range notInsertRings() {
		if impl.IsInsertRing(r) {
			t.Errorf("%v is an insertion ring", r)
		}
	}
}

// checkInsertNumbers wants the numbers of messages to be what the ticks say at which they are inserted and
// read.
func checkInsertNumbers(t *testing.T, r impl.InsertRing, messages []impl.Message) {
	t.Helper()
	name := textOfInserts(r, messages)
	inserted, _ := impl.InsertedAt(r, messages)
	read, _ := impl.InsertRead(r, messages)
	var longest int
	var delays []int
	for i, m := range messages {
		longest = max(longest, inserted[i]-m.Tick)
		delays = append(delays, read[i]-inserted[i]-plainHops(r.Stations, m))
	}
	last, ok := impl.LastInsertRead(r, messages)
	wantInt(t, "LastInsertRead "+name, last, ok, slices.Max(append(read, 0)))
	got, ok := impl.DelaysOfCells(r, messages)
	wantInts(t, "DelaysOfCells "+name, got, ok, delays)
	wait, ok := impl.LongestInsertWait(r, messages)
	wantInt(t, "LongestInsertWait "+name, wait, ok, longest)
	peak, ok := impl.BufferPeak(r, messages)
	if !ok || peak < 0 || peak > r.Room || !r.OwnFirst && peak > 0 {
		t.Errorf("BufferPeak %s: %d, %v", name, peak, ok)
	}
}

func TestInsertNumbersExamples(t *testing.T) {
	for _, c := range []struct {
		ring                      impl.InsertRing
		messages                  []impl.Message
		peak, last, longest, idle int // idle is the station 1, at the first ten ticks
		delays                    []int
	}{
		{insertRing(3, 2), insertExample, 0, 4, 1, 8, []int{0, 0}},
		{insertRingOwn(3, 2), insertExample, 1, 3, 0, 8, []int{1, 0}},
		{insertRingOwn(3, 1), insertExample, 0, 4, 1, 8, []int{0, 0}},
		{insertRing(3, 2), crowd(3, 3), 0, 7, 5, 4, zeros(6)},
		{insertRingOwn(3, 2), crowd(3, 3), 1, 7, 4, 4, []int{1, 1, 3, 0, 0, 0}},
		{insertRingOwn(3, 3), crowd(3, 3), 2, 7, 3, 4, []int{2, 3, 3, 0, 0, 0}},
		{insertRingOwn(3, 20), crowd(3, 3), 3, 7, 2, 4, []int{3, 3, 3, 0, 0, 0}},
		{insertRing(2, 1), messagesAt(3, 0, 1, 0), 0, 3, 2, 7, zeros(3)},
		{insertRingOwn(2, 20), messagesAt(3, 8, 1, 0), 0, 11, 2, 8, zeros(3)},
		{insertRingOwn(12, 20), messagesAt(20, 100, 1, 0), 0, 130, 19, 10, zeros(20)},
		{insertRingOwn(12, 5), []impl.Message{message(0, 3, 2), message(1, 3, 4)}, 0, 11, 0, 10, zeros(2)}, // the first one is read last
	} {
		name := textOfInserts(c.ring, c.messages)
		peak, ok := impl.BufferPeak(c.ring, c.messages)
		wantInt(t, "BufferPeak "+name, peak, ok, c.peak)
		last, ok := impl.LastInsertRead(c.ring, c.messages)
		wantInt(t, "LastInsertRead "+name, last, ok, c.last)
		longest, ok := impl.LongestInsertWait(c.ring, c.messages)
		wantInt(t, "LongestInsertWait "+name, longest, ok, c.longest)
		idle, ok := impl.IdleTicks(c.ring, c.messages, 1, 10)
		wantInt(t, "IdleTicks "+name, idle, ok, c.idle)
		delays, ok := impl.DelaysOfCells(c.ring, c.messages)
		wantInts(t, "DelaysOfCells "+name, delays, ok, c.delays)
	}
}

func wantUnderway(t *testing.T, r impl.InsertRing, messages []impl.Message, tick, want int) {
	t.Helper()
	got, ok := impl.CellsUnderway(r, messages, tick)
	wantInt(t, fmt.Sprint("CellsUnderway ", tick, " of ", textOfInserts(r, messages)), got, ok, want)
}

// A cell is underway at the tick at which it is inserted, and no more at that at which it is read.
func TestCellsUnderwayExamples(t *testing.T) {
	for tick, want := range []int{1, 1, 1, 1, 0, 0} {
		wantUnderway(t, insertRing(3, 2), insertExample, tick, want)
	}
	for tick, want := range []int{1, 2, 2, 0, 0, 0} {
		wantUnderway(t, insertRingOwn(3, 2), insertExample, tick, want)
	}
	for tick, want := range []int{1, 3, 3, 2, 2, 2, 1, 0} {
		wantUnderway(t, insertRingOwn(3, 2), crowd(3, 3), tick, want)
	}
	for tick, want := range map[int]int{0: 0, 99: 0, 100: 1, 101: 2, 110: 11, 111: 11, 119: 11, 120: 10, 129: 1, 130: 0, 600: 0} {
		wantUnderway(t, insertRing(12, 7), messagesAt(20, 100, 4, 3), tick, want)
	}
}

func wantIdle(t *testing.T, r impl.InsertRing, messages []impl.Message, s, ticks, want int) {
	t.Helper()
	got, ok := impl.IdleTicks(r, messages, s, ticks)
	wantInt(t, fmt.Sprint("IdleTicks ", s, ", ", ticks, " of ", textOfInserts(r, messages)), got, ok, want)
}

func TestIdleTicksExamples(t *testing.T) {
	for s, idle := range [][]int{{0, 0, 1, 2, 3, 4}, {0, 1, 1, 1, 2, 3}, {0, 1, 2, 3, 3, 4}} {
		for ticks, want := range idle {
			wantIdle(t, insertRing(3, 2), insertExample, s, ticks, want)
		}
		wantIdle(t, insertRing(3, 2), insertExample, s, 600, []int{599, 598, 599}[s])
	}
	for s, idle := range [][]int{{0, 0, 1, 2, 3, 4}, {0, 1, 1, 1, 2, 3}, {0, 1, 2, 2, 3, 4}} {
		for ticks, want := range idle {
			wantIdle(t, insertRingOwn(3, 2), insertExample, s, ticks, want)
		}
	}
	late := messagesAt(20, 100, 11, 10)
	for ticks, want := range map[int]int{0: 0, 100: 100, 101: 100, 120: 100, 121: 101, 599: 579, 600: 580} {
		wantIdle(t, insertRingOwn(12, 3), late, 11, ticks, want)
	}
	wantIdle(t, insertRingOwn(12, 3), late, 10, 600, 600)
	wantIdle(t, insertRingOwn(12, 3), late, 9, 600, 580)
}

// checkSteadyNumbers wants what is told of ticks to fit together: cells are underway in buffers and on
// links, behind the last read there are none, and a station is idle when its link shows nothing.
func checkSteadyNumbers(t *testing.T, r impl.InsertRing, messages []impl.Message) {
	t.Helper()
	name := textOfInserts(r, messages)
	last, _ := impl.LastInsertRead(r, messages)
	idle := zeros(r.Stations)
	peak := 0
	for tick := range last + 3 {
		buffers, _ := impl.BuffersAt(r, messages, tick)
		links, _ := impl.LinksAt(r, messages, tick)
		if len(buffers) != r.Stations || len(links) != r.Stations {
			t.Errorf("%s: buffers %v, links %v at %d", name, buffers, links, tick)
			return
		}
		underway := 0
		for s := range r.Stations {
			wantIdle(t, r, messages, s, tick, idle[s])
			underway += len(buffers[s]) + min(links[s], 1)
			peak = max(peak, len(buffers[s]))
			if links[s] == 0 {
				idle[s]++
			}
		}
		wantUnderway(t, r, messages, tick, underway)
		if tick >= last && underway > 0 || len(messages) > 0 && tick == last-1 && underway == 0 {
			t.Errorf("%s: %d cells are underway at %d, the last one is read at %d", name, underway, tick, last)
		}
	}
	got, ok := impl.BufferPeak(r, messages)
	wantInt(t, "BufferPeak "+name, got, ok, peak)
	loads, _ := impl.LoadOfLinks(slotRing(r.Stations), messages)
	for s, load := range loads {
		wantIdle(t, r, messages, s, impl.MaxInsertTick, impl.MaxInsertTick-load)
	}
}

func TestSteadyNumbers(t *testing.T) {
	random := &numbers{61}
	for _, r := range insertRings() {
		for _, messages := range crowdedMessagesFor(r.Stations)[:min(3, r.Stations-2)] {
			checkSteadyNumbers(t, r, messages)
		}
		checkSteadyNumbers(t, r, random.messages(r.Stations, 30, 4))
		checkSteadyNumbers(t, r, nil)
	}
}

func wantTurned(t *testing.T, r impl.InsertRing, messages []impl.Message, by int, want ...int) {
	t.Helper()
	got, ok := impl.TurnInserted(r, messages, by)
	wantInts(t, fmt.Sprint("TurnInserted ", by, " of ", textOfInserts(r, messages)), got, ok, want)
}

func TestTurnInserted(t *testing.T) {
	for by := range 3 {
		wantTurned(t, insertRing(3, 2), insertExample, by, 0, 2)
		wantTurned(t, insertRingOwn(3, 2), insertExample, by, 0, 1)
	}
	random := &numbers{67}
	for _, r := range insertRings() {
		for _, messages := range append(insertMessagesFor(r.Stations), random.messages(r.Stations, 20, 12), random.messages(r.Stations, 101, 3)) {
			inserted, _ := impl.InsertedAt(r, messages)
			for by := range r.Stations {
				wantTurned(t, r, messages, by, inserted...)
				turned, _ := impl.TurnMessages(slotRing(r.Stations), messages, by)
				wantTurned(t, r, messages, by, walkInserts(r, turned, 0).inserted...)
			}
		}
	}
}

// No messages have no ticks, and all is empty.
func TestNoMessagesToInsert(t *testing.T) {
	for _, r := range insertRings() {
		for _, none := range [][]impl.Message{nil, {}} {
			wantInserted(t, r, none)
			wantInsertRead(t, r, none)
			delays, ok := impl.DelaysOfCells(r, none)
			wantInts(t, fmt.Sprint("DelaysOfCells ", r), delays, ok, nil)
			for _, function := range []func(impl.InsertRing, []impl.Message) (int, bool){impl.BufferPeak, impl.LastInsertRead, impl.LongestInsertWait} {
				number, ok := function(r, none)
				wantInt(t, fmt.Sprint("a number of ", r), number, ok, 0)
			}
			for _, tick := range []int{0, 1, 599, 600} {
				wantBuffers(t, r, none, tick, make([][]int, r.Stations)...)
				wantLinks(t, r, none, tick, zeros(r.Stations)...)
				wantUnderway(t, r, none, tick, 0)
				wantIdle(t, r, none, 0, tick, tick)
				wantIdle(t, r, none, r.Stations-1, tick, tick)
			}
			wantTurned(t, r, none, 0)
			wantTurned(t, r, none, r.Stations-1)
		}
	}
}

package tests

import (
	"fmt"
	"math"
	"testing"

	"loop.example/g01176/impl"
)

func wantNoBuffers(t *testing.T, name string, r impl.InsertRing, messages []impl.Message, tick int) {
	t.Helper()
	if got, ok := impl.BuffersAt(r, messages, tick); ok || len(got) > 0 {
		t.Errorf("BuffersAt %d of %s: got %v, %v, want a failure", tick, name, got, ok)
	}
}

// wantInsertFailures wants all functions of a ring with messages to fail, with numbers that are fine.
func wantInsertFailures(t *testing.T, r impl.InsertRing, messages []impl.Message) {
	t.Helper()
	name := " of " + textOfInserts(r, messages)
	for what, function := range map[string]func(impl.InsertRing, []impl.Message) ([]int, bool){
		"InsertedAt": impl.InsertedAt, "InsertRead": impl.InsertRead, "DelaysOfCells": impl.DelaysOfCells,
	} {
		got, ok := function(r, messages)
		wantNoInts(t, what+name, got, ok)
	}
	for what, function := range map[string]func(impl.InsertRing, []impl.Message) (int, bool){
		"BufferPeak": impl.BufferPeak, "LastInsertRead": impl.LastInsertRead, "LongestInsertWait": impl.LongestInsertWait,
	} {
		got, ok := function(r, messages)
		wantNoInt(t, what+name, got, ok)
	}
	for _, n := range []int{0, 1} {
		wantNoBuffers(t, name, r, messages, n)
		links, ok := impl.LinksAt(r, messages, n)
		wantNoInts(t, "LinksAt"+name, links, ok)
		underway, ok := impl.CellsUnderway(r, messages, n)
		wantNoInt(t, "CellsUnderway"+name, underway, ok)
		turned, ok := impl.TurnInserted(r, messages, n)
		wantNoInts(t, "TurnInserted"+name, turned, ok)
		idle, ok := impl.IdleTicks(r, messages, n, n)
		wantNoInt(t, "IdleTicks"+name, idle, ok)
	}
}

func TestInsertsOfOthersFail(t *testing.T) {
	for _, r := range insertRings() {
		for _, messages := range notMessagesFor(r.Stations) {
			wantInsertFailures(t, r, messages)
		}
	}
	for _, r := range notInsertRings() {
		for _, messages := range append(someMessages(), insertExample) {
			wantInsertFailures(t, r, messages)
		}
	}
}

// Messages are fine as long as their numbers are within the limits, one by one.
func TestLimitsOfInserts(t *testing.T) {
	for _, r := range []impl.InsertRing{insertRing(2, 1), insertRing(12, 20), insertRingOwn(2, 20), insertRingOwn(5, 1), insertRingOwn(12, 3)} {
		for n := range 23 {
			_, ok := impl.InsertedAt(r, messagesAt(n, 0, 0, 1))
			if ok != (n <= impl.MaxMessages) {
				t.Errorf("InsertedAt %v of %d messages: %v", r, n, ok)
			}
		}
		for tick := -2; tick <= 103; tick++ {
			_, ok := impl.InsertRead(r, []impl.Message{message(tick, 0, 1)})
			if ok != (0 <= tick && tick <= 100) {
				t.Errorf("InsertRead %v of a message at %d: %v", r, tick, ok)
			}
		}
		for from := -1; from <= 13; from++ {
			for to := -1; to <= 13; to++ {
				_, ok := impl.DelaysOfCells(r, []impl.Message{message(0, from, to)})
				if ok != (0 <= min(from, to) && max(from, to) < r.Stations && from != to) {
					t.Errorf("DelaysOfCells %v from %d to %d: %v", r, from, to, ok)
				}
			}
		}
	}
}

func TestNumbersOfInsertsFail(t *testing.T) {
	for _, r := range insertRings() {
		for _, messages := range [][]impl.Message{nil, {message(0, 0, 1), message(2, 1, 0)}} {
			name := textOfInserts(r, messages)
			for _, tick := range []int{-1, 601, 602, -600, 1 << 32, math.MinInt, math.MaxInt} {
				wantNoBuffers(t, name, r, messages, tick)
				links, ok := impl.LinksAt(r, messages, tick)
				wantNoInts(t, fmt.Sprint("LinksAt ", tick, " of ", name), links, ok)
				underway, ok := impl.CellsUnderway(r, messages, tick)
				wantNoInt(t, fmt.Sprint("CellsUnderway ", tick, " of ", name), underway, ok)
				for _, s := range []int{0, r.Stations - 1} {
					idle, ok := impl.IdleTicks(r, messages, s, tick)
					wantNoInt(t, fmt.Sprint("IdleTicks ", s, ", ", tick, " of ", name), idle, ok)
				}
			}
			for _, n := range []int{-1, r.Stations, r.Stations + 1, -r.Stations, 1 << 32, math.MinInt, math.MaxInt} {
				turned, ok := impl.TurnInserted(r, messages, n)
				wantNoInts(t, fmt.Sprint("TurnInserted ", n, " of ", name), turned, ok)
				for _, ticks := range []int{0, 1, 600} {
					idle, ok := impl.IdleTicks(r, messages, n, ticks)
					wantNoInt(t, fmt.Sprint("IdleTicks ", n, ", ", ticks, " of ", name), idle, ok)
				}
			}
		}
	}
}

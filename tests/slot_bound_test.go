package tests

import (
	"fmt"
	"math"
	"testing"

	"loop.example/g01176/impl"
)

func TestSlotBoundExamples(t *testing.T) {
	for _, c := range []struct {
		stations int
		messages []impl.Message
		bound    int
	}{
		{3, exampleMessages, 14}, {3, exampleMessages[1:], 8}, {3, exampleMessages[:1], 6},
		{2, nil, 0}, {12, nil, 0}, {12, []impl.Message{}, 0},
		{2, []impl.Message{message(0, 0, 1)}, 4}, {2, []impl.Message{message(100, 0, 1)}, 104}, {2, []impl.Message{message(0, 0, 1), message(100, 1, 0)}, 108},
		{12, messagesAt(20, 0, 0, 1), 480}, {12, messagesAt(20, 100, 11, 1), 580}, {7, messagesAt(13, 50, 6, 5), 232},
	} {
		for _, r := range []impl.SlotRing{slotRing(c.stations), slotRingHome(c.stations)} {
			got, ok := impl.SlotBound(r, c.messages)
			wantInt(t, "SlotBound "+textOfMessages(r, c.messages), got, ok, c.bound)
		}
	}
}

func TestLastReadExamples(t *testing.T) {
	for _, c := range []struct {
		stations       int
		messages       []impl.Message
		read, readHome int
	}{
		{3, exampleMessages, 3, 4}, {2, nil, 0, 0}, {12, []impl.Message{}, 0, 0},
		{2, []impl.Message{message(0, 0, 1)}, 1, 1}, {12, []impl.Message{message(100, 0, 11)}, 111, 111},
		{5, []impl.Message{message(0, 0, 4), message(1, 0, 1)}, 4, 4}, // the first one is read last
		{2, messagesAt(20, 100, 1, 0), 120, 138}, {12, messagesAt(20, 100, 0, 11), 130, 142},
		{12, messagesAt(20, 0, 0, 1), 20, 32},
	} {
		got, ok := impl.LastRead(slotRing(c.stations), c.messages)
		wantInt(t, "LastRead "+textOfMessages(slotRing(c.stations), c.messages), got, ok, c.read)
		got, ok = impl.LastRead(slotRingHome(c.stations), c.messages)
		wantInt(t, "LastRead "+textOfMessages(slotRingHome(c.stations), c.messages), got, ok, c.readHome)
	}
}

// plainSlotBound puts two rounds for each message behind the last one that comes.
func plainSlotBound(r impl.SlotRing, messages []impl.Message) int {
	comes, rounds := 0, 0
	for _, m := range messages {
		comes = max(comes, m.Tick)
		rounds += r.Stations + r.Stations
	}
	return comes + rounds
}

// checkSlotBound wants no message to be read behind the bound.
func checkSlotBound(t *testing.T, r impl.SlotRing, messages []impl.Message) {
	t.Helper()
	name := textOfMessages(r, messages)
	bound, ok := impl.SlotBound(r, messages)
	wantInt(t, "SlotBound "+name, bound, ok, plainSlotBound(r, messages))
	last, ok := impl.LastRead(r, messages)
	if !ok || last > bound {
		t.Errorf("%s: read at last at %d, %v, bound %d", name, last, ok, bound)
	}
}

// Messages of one station over all links but one, which all wait for it, take the longest.
func TestSlotBoundOfFullRings(t *testing.T) {
	for _, r := range slotRings() {
		for n := range impl.MaxMessages + 1 {
			for _, tick := range []int{0, 1, 99, 100} {
				for _, s := range []int{0, 1, r.Stations - 1} {
					checkSlotBound(t, r, messagesAt(n, tick, s, (s+r.Stations-1)%r.Stations))
					checkSlotBound(t, r, messagesAt(n, tick, s, (s+1)%r.Stations))
				}
			}
		}
	}
}

func TestNumbersOfSlotsFail(t *testing.T) {
	for _, r := range slotRings() {
		messages := []impl.Message{message(0, 0, 1), message(2, 1, 0)}
		for _, list := range [][]impl.Message{nil, messages} {
			for _, n := range []int{-1, 401, 402, -400, 1 << 32, math.MinInt, math.MaxInt} {
				slots, ok := impl.SlotsAt(r, list, n)
				wantNoInts(t, fmt.Sprint("SlotsAt ", n), slots, ok)
				full, ok := impl.FullTicks(r, list, n)
				wantNoInt(t, fmt.Sprint("FullTicks ", n), full, ok)
				for _, s := range []int{0, 1, r.Stations - 1} {
					queue, ok := impl.QueueAt(r, list, s, n)
					wantNoInts(t, fmt.Sprint("QueueAt ", s, ", ", n), queue, ok)
				}
			}
			for _, n := range []int{-1, r.Stations, r.Stations + 1, -r.Stations, 1 << 32, math.MinInt, math.MaxInt} {
				for _, tick := range []int{0, 2, 400} {
					queue, ok := impl.QueueAt(r, list, n, tick)
					wantNoInts(t, fmt.Sprint("QueueAt ", n, ", ", tick), queue, ok)
				}
				if turned, ok := impl.TurnMessages(r, list, n); ok || len(turned) > 0 {
					t.Errorf("TurnMessages %d: %v, %v", n, turned, ok)
				}
			}
		}
	}
}

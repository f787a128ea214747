package tests

import (
	"fmt"
	"slices"
	"testing"

	"loop.example/g01176/impl"
)

func TestIsSlotRing(t *testing.T) {
	for stations := -15; stations <= 30; stations++ {
		want := 2 <= stations && stations <= 12
		for _, r := range []impl.SlotRing{slotRing(stations), slotRingHome(stations)} {
			if got := impl.IsSlotRing(r); got != want {
				t.Errorf("IsSlotRing %v is %v", r, got)
			}
		}
	}
	for _, r := range notSlotRings() {
		if impl.IsSlotRing(r) {
			t.Errorf("%v is a slot ring", r)
		}
	}
}

func wantAreMessages(t *testing.T, r impl.SlotRing, messages []impl.Message, want bool) {
	t.Helper()
	if got, ok := impl.AreMessages(r, messages); !ok || got != want {
		t.Errorf("AreMessages %s: %v, %v, want %v", textOfMessages(r, messages), got, ok, want)
	}
}

func TestAreMessages(t *testing.T) {
	for _, r := range slotRings() {
		for _, messages := range append(edgeMessagesFor(r.Stations), []impl.Message{}) {
			wantAreMessages(t, r, messages, true)
		}
		for _, messages := range notMessagesFor(r.Stations) {
			wantAreMessages(t, r, messages, false)
		}
		for n := range 41 {
			wantAreMessages(t, r, messagesAt(n, 0, 0, 1), n <= 20)
			wantAreMessages(t, r, messagesAt(n, 100, 1, 0), n <= 20)
		}
		wantAreMessages(t, r, messagesAt(5000, 3, 1, 0), false)
		for from := -2; from <= 14; from++ {
			for to := -2; to <= 14; to++ {
				want := 0 <= from && from < r.Stations && 0 <= to && to < r.Stations && from != to
				wantAreMessages(t, r, []impl.Message{message(0, from, to)}, want)
			}
		}
	}
}

func TestTicksOfMessages(t *testing.T) {
	r := slotRing(4)
	for tick := -3; tick <= 402; tick++ {
		wantAreMessages(t, r, []impl.Message{message(tick, 0, 1)}, 0 <= tick && tick <= 100)
	}
	for first := -2; first <= 4; first++ {
		for second := -2; second <= 4; second++ {
			wantAreMessages(t, r, []impl.Message{message(first, 0, 1), message(second, 0, 1)}, 0 <= first && first <= second)
			wantAreMessages(t, r, []impl.Message{message(96+first, 0, 1), message(98+second, 3, 1)}, first-2 <= second && second <= 2)
		}
	}
}

func TestAreMessagesOfOthersFails(t *testing.T) {
	for _, r := range notSlotRings() {
		for _, messages := range [][]impl.Message{nil, {}, {message(0, 0, 1)}, exampleMessages, {message(0, 0, 0)}, {message(-1, 0, 1)}, messagesAt(21, 0, 0, 1)} {
			if got, ok := impl.AreMessages(r, messages); got || ok {
				t.Errorf("AreMessages %s: %v, %v", textOfMessages(r, messages), got, ok)
			}
		}
	}
}

// wantMessageFailures wants all functions of a ring with messages to fail, with numbers that are fine.
func wantMessageFailures(t *testing.T, r impl.SlotRing, messages []impl.Message) {
	t.Helper()
	name := " of " + textOfMessages(r, messages)
	for what, function := range map[string]func(impl.SlotRing, []impl.Message) ([]int, bool){
		"FilledAt": impl.FilledAt, "ReadAt": impl.ReadAt, "LoadOfLinks": impl.LoadOfLinks,
	} {
		got, ok := function(r, messages)
		wantNoInts(t, what+name, got, ok)
	}
	for what, function := range map[string]func(impl.SlotRing, []impl.Message) (int, bool){
		"LastRead": impl.LastRead, "SlotBound": impl.SlotBound,
	} {
		got, ok := function(r, messages)
		wantNoInt(t, what+name, got, ok)
	}
	for _, n := range []int{0, 1} {
		slots, ok := impl.SlotsAt(r, messages, n)
		wantNoInts(t, "SlotsAt"+name, slots, ok)
		full, ok := impl.FullTicks(r, messages, n)
		wantNoInt(t, "FullTicks"+name, full, ok)
		queue, ok := impl.QueueAt(r, messages, n, n)
		wantNoInts(t, "QueueAt"+name, queue, ok)
		if turned, ok := impl.TurnMessages(r, messages, n); ok || len(turned) > 0 {
			t.Errorf("TurnMessages%s: %v, %v", name, turned, ok)
		}
	}
	if len(messages) == 1 {
		hops, ok := impl.HopsOfMessage(r, messages[0])
		wantNoInt(t, "HopsOfMessage"+name, hops, ok)
	}
}

func TestSlotsOfOthersFail(t *testing.T) {
	for _, r := range slotRings() {
		for _, messages := range notMessagesFor(r.Stations) {
			wantMessageFailures(t, r, messages)
		}
	}
	for _, r := range notSlotRings() {
		for _, messages := range [][]impl.Message{nil, {}, {message(0, 0, 1)}, {message(100, 2, 0)}, exampleMessages, messagesAt(21, 0, 0, 1)} {
			wantMessageFailures(t, r, messages)
		}
	}
}

// No messages have no ticks, no loads and empty slots.
func TestNoMessages(t *testing.T) {
	for _, r := range slotRings() {
		for _, none := range [][]impl.Message{nil, {}} {
			name := " of " + textOfMessages(r, none)
			wantFilled(t, r, none)
			read, ok := impl.ReadAt(r, none)
			wantInts(t, "ReadAt"+name, read, ok, nil)
			loads, ok := impl.LoadOfLinks(r, none)
			wantInts(t, "LoadOfLinks"+name, loads, ok, zeros(r.Stations))
			for _, function := range []func(impl.SlotRing, []impl.Message) (int, bool){impl.LastRead, impl.SlotBound} {
				number, ok := function(r, none)
				wantInt(t, "ticks"+name, number, ok, 0)
			}
			for _, tick := range []int{0, 1, 399, 400} {
				wantSlots(t, r, none, tick, zeros(r.Stations)...)
				wantFull(t, r, none, tick, 0)
				wantQueue(t, r, none, r.Stations-1, tick)
			}
			turned, ok := impl.TurnMessages(r, none, r.Stations-1)
			if !ok || len(turned) > 0 {
				t.Errorf("TurnMessages%s: %v, %v", name, turned, ok)
			}
		}
	}
}

func TestHopsOfMessage(t *testing.T) {
	for _, r := range slotRings() {
		for from := -1; from <= r.Stations; from++ {
			for to := -1; to <= r.Stations; to++ {
				for _, tick := range []int{-1, 0, 1, 57, 100, 101} {
					m := message(tick, from, to)
					name := fmt.Sprint("HopsOfMessage ", r, m)
					hops, ok := impl.HopsOfMessage(r, m)
					if from == to || min(from, to) < 0 || max(from, to) == r.Stations || tick < 0 || tick > 100 {
						wantNoInt(t, name, hops, ok)
					} else {
						wantInt(t, name, hops, ok, plainHops(r.Stations, m))
					}
				}
			}
		}
	}
	for _, c := range []struct{ stations, from, to, hops int }{
		{3, 0, 2, 2}, {3, 2, 0, 1}, {3, 2, 1, 2}, {2, 0, 1, 1}, {2, 1, 0, 1}, {12, 0, 11, 11}, {12, 11, 0, 1}, {12, 6, 5, 11},
	} {
		hops, ok := impl.HopsOfMessage(slotRing(c.stations), message(7, c.from, c.to))
		wantInt(t, fmt.Sprint("HopsOfMessage ", c), hops, ok, c.hops)
	}
}

func TestLoadOfLinksExamples(t *testing.T) {
	for _, c := range []struct {
		stations int
		messages []impl.Message
		loads    []int
	}{
		{5, []impl.Message{message(0, 1, 3)}, []int{0, 1, 1, 0, 0}},
		{5, []impl.Message{message(0, 3, 1)}, []int{1, 0, 0, 1, 1}},
		{5, []impl.Message{message(0, 3, 1), message(0, 4, 0), message(9, 1, 0)}, []int{1, 1, 1, 2, 3}},
		{2, []impl.Message{message(0, 0, 1), message(0, 0, 1), message(3, 1, 0)}, []int{2, 1}},
		{3, messagesAt(20, 100, 2, 1), []int{20, 0, 20}},
	} {
		for _, r := range []impl.SlotRing{slotRing(c.stations), slotRingHome(c.stations)} {
			loads, ok := impl.LoadOfLinks(r, c.messages)
			wantInts(t, "LoadOfLinks "+textOfMessages(r, c.messages), loads, ok, c.loads)
		}
	}
}

// checkLoads wants the loads to be those of plain ways, and all together to be all hops.
func checkLoads(t *testing.T, r impl.SlotRing, messages []impl.Message) {
	t.Helper()
	name := textOfMessages(r, messages)
	loads, ok := impl.LoadOfLinks(r, messages)
	wantInts(t, "LoadOfLinks "+name, loads, ok, plainLoads(r.Stations, messages))
	hops := 0
	for _, m := range messages {
		n, _ := impl.HopsOfMessage(r, m)
		hops += n
	}
	if sumOf(loads) != hops {
		t.Errorf("LoadOfLinks %s: %v, of %d hops", name, loads, hops)
	}
}

// checkTurns wants turned messages to have other stations, and else the same of all.
func checkTurns(t *testing.T, r impl.SlotRing, messages []impl.Message, by int) {
	t.Helper()
	name := fmt.Sprint("TurnMessages ", by, " of ", textOfMessages(r, messages))
	var want []impl.Message
	for _, m := range messages {
		for range by {
			m = message(m.Tick, m.From+1, m.To+1)
			if m.From == r.Stations {
				m.From = 0
			}
			if m.To == r.Stations {
				m.To = 0
			}
		}
		want = append(want, m)
	}
	turned, ok := impl.TurnMessages(r, messages, by)
	if !ok || !slices.Equal(turned, want) {
		t.Errorf("%s: got %v, %v, want %v", name, turned, ok, want)
	}
	for _, function := range []func(impl.SlotRing, []impl.Message) ([]int, bool){impl.FilledAt, impl.ReadAt} {
		before, _ := function(r, messages)
		behind, ok := function(r, turned)
		wantInts(t, name+" has ticks", behind, ok, before)
	}
}

func TestLoadsAndTurns(t *testing.T) {
	random := &numbers{41}
	for _, r := range slotRings() {
		for _, messages := range edgeMessagesFor(r.Stations) {
			checkLoads(t, r, messages)
			for by := range r.Stations {
				checkTurns(t, r, messages, by)
			}
		}
		for range 30 {
			messages := random.messages(r.Stations, 101, 12)
			checkLoads(t, r, messages)
			checkTurns(t, r, messages, random.below(r.Stations))
		}
	}
}

func TestTurnMessagesExamples(t *testing.T) {
	for by, want := range map[int][]impl.Message{
		0: exampleMessages,
		1: {message(0, 1, 0), message(2, 0, 1)},
		2: {message(0, 2, 1), message(2, 1, 2)},
	} {
		turned, ok := impl.TurnMessages(slotRing(3), exampleMessages, by)
		if !ok || !slices.Equal(turned, want) {
			t.Errorf("TurnMessages %d: %v, %v, want %v", by, turned, ok, want)
		}
	}
}

package tests

import (
	"fmt"
	"slices"
	"testing"

	"loop.example/g01176/impl"
)

func TestSlotExample(t *testing.T) {
	for _, c := range []struct {
		ring         impl.SlotRing
		filled, read []int
		slots        [][]int
		full         int
	}{
		{slotRing(3), []int{0, 2}, []int{2, 3}, [][]int{{1, 0, 0}, {1, 0, 0}, {2, 0, 0}, {0, 0, 0}, {0, 0, 0}}, 0},
		{slotRingHome(3), []int{0, 3}, []int{2, 4}, [][]int{{1, 0, 0}, {1, 0, 0}, {1, 0, 0}, {0, 0, 2}, {0, 0, 2}, {0, 0, 2}, {0, 0, 0}}, 0},
	} {
		wantFilled(t, c.ring, exampleMessages, c.filled...)
		read, ok := impl.ReadAt(c.ring, exampleMessages)
		wantInts(t, fmt.Sprint("ReadAt ", c.ring), read, ok, c.read)
		for tick, want := range c.slots {
			wantSlots(t, c.ring, exampleMessages, tick, want...)
		}
		full, ok := impl.FullTicks(c.ring, exampleMessages, 400)
		wantInt(t, fmt.Sprint("FullTicks ", c.ring), full, ok, c.full)
		loads, ok := impl.LoadOfLinks(c.ring, exampleMessages)
		wantInts(t, fmt.Sprint("LoadOfLinks ", c.ring), loads, ok, []int{1, 1, 1})
	}
	wantQueue(t, slotRing(3), exampleMessages, 2, 2)
	wantQueue(t, slotRingHome(3), exampleMessages, 2, 1)
	wantQueue(t, slotRingHome(3), exampleMessages, 2, 2, 1)
	wantQueue(t, slotRingHome(3), exampleMessages, 2, 3)
}

func wantFilled(t *testing.T, r impl.SlotRing, messages []impl.Message, want ...int) {
	t.Helper()
	got, ok := impl.FilledAt(r, messages)
	wantInts(t, "FilledAt "+textOfMessages(r, messages), got, ok, want)
}

func wantSlots(t *testing.T, r impl.SlotRing, messages []impl.Message, tick int, want ...int) {
	t.Helper()
	got, ok := impl.SlotsAt(r, messages, tick)
	wantInts(t, fmt.Sprint("SlotsAt ", tick, " of ", textOfMessages(r, messages)), got, ok, want)
}

func wantQueue(t *testing.T, r impl.SlotRing, messages []impl.Message, s, tick int, want ...int) {
	t.Helper()
	got, ok := impl.QueueAt(r, messages, s, tick)
	wantInts(t, fmt.Sprint("QueueAt ", s, ", ", tick, " of ", textOfMessages(r, messages)), got, ok, want)
}

func wantFull(t *testing.T, r impl.SlotRing, messages []impl.Message, ticks, want int) {
	t.Helper()
	got, ok := impl.FullTicks(r, messages, ticks)
	wantInt(t, fmt.Sprint("FullTicks ", ticks, " of ", textOfMessages(r, messages)), got, ok, want)
}

// A slot that is read is filled at the same tick by the station that reads it, with a message that has come
// at this tick or before.
func TestSlotIsFilledWhereItIsRead(t *testing.T) {
	r := slotRing(2)
	wantFilled(t, r, []impl.Message{message(0, 0, 1), message(0, 0, 1), message(1, 1, 0)}, 0, 1, 1)
	wantFilled(t, r, []impl.Message{message(0, 0, 1), message(0, 1, 0), message(0, 1, 0), message(0, 1, 0)}, 0, 0, 1, 2)
	r = slotRing(3)
	blocked := []impl.Message{message(0, 0, 2), message(1, 2, 1), message(2, 2, 0)}
	wantFilled(t, r, blocked, 0, 1, 2)
	wantSlots(t, r, blocked, 1, 1, 2, 0)
	wantSlots(t, r, blocked, 2, 3, 2, 0)
	// the slots pass the station 1 full until the first one comes round free, or until one is read there
	passing := append(messagesAt(3, 0, 0, 2), message(1, 1, 0), message(1, 1, 0))
	wantFilled(t, r, passing, 0, 1, 2, 4, 5)
	passing[2].To = 1
	wantFilled(t, r, passing, 0, 1, 2, 3, 4)
}

// A slot that is freed at home is not filled at this tick, although a message waits there: the next station
// may fill it, and home not before it comes round free.
func TestSlotIsNotFilledWhereItIsFreed(t *testing.T) {
	r := slotRingHome(2)
	wantFilled(t, r, messagesAt(3, 0, 0, 1), 0, 1, 4)
	wantFilled(t, r, append(messagesAt(3, 0, 0, 1), message(3, 1, 0)), 0, 1, 5, 3)
	wantFilled(t, r, append(messagesAt(2, 0, 0, 1), message(2, 0, 1)), 0, 1, 4)
	wantFilled(t, r, append(messagesAt(2, 0, 0, 1), message(3, 0, 1)), 0, 1, 4)
	wantFilled(t, r, append(messagesAt(1, 0, 0, 1), message(2, 0, 1)), 0, 3)
	wantFilled(t, r, append(messagesAt(1, 0, 1, 0), message(2, 1, 0)), 0, 3)
	r = slotRingHome(3)
	wantFilled(t, r, append(messagesAt(3, 0, 2, 0), message(3, 2, 1)), 0, 1, 2, 6)
	wantFilled(t, r, append(messagesAt(3, 0, 2, 0), message(3, 2, 1), message(4, 0, 1)), 0, 1, 2, 7, 4)
	three := messagesAt(3, 0, 0, 1)
	wantSlots(t, r, three, 2, 1, 3, 2)
	wantSlots(t, r, three, 3, 0, 3, 2)
	wantSlots(t, r, three, 4, 0, 3, 0)
	wantSlots(t, r, three, 5, 0, 0, 0)
}

// Only the slot that is freed at home is not filled at this tick; other stations fill theirs.
func TestOthersFillWhileOneFrees(t *testing.T) {
	r := slotRingHome(4)
	messages := []impl.Message{message(0, 0, 1), message(4, 0, 2), message(4, 1, 3), message(4, 2, 1), message(4, 3, 0)}
	wantFilled(t, r, messages, 0, 8, 4, 4, 4)
	wantSlots(t, r, messages, 4, 0, 3, 4, 5)
	wantSlots(t, r, messages, 5, 0, 3, 4, 5)
}

// Slots are told by their own numbers, not by the stations at which they are.
func TestSlotsKeepTheirNumbers(t *testing.T) {
	for _, r := range slotRings() {
		for tick := range 30 {
			for s := range r.Stations {
				m := []impl.Message{message(tick, s, (s+1)%r.Stations)}
				want := zeros(r.Stations)
				for k := range want {
					if (k+tick)%r.Stations == s {
						want[k] = 1
					}
				}
				wantSlots(t, r, m, tick, want...)
			}
		}
	}
}

func TestFullTicksExamples(t *testing.T) {
	both := []impl.Message{message(0, 0, 1), message(0, 1, 0)}
	for ticks, want := range map[int]int{0: 0, 1: 1, 2: 1, 400: 1} {
		wantFull(t, slotRing(2), both, ticks, want)
	}
	for ticks, want := range map[int]int{0: 0, 1: 1, 2: 2, 3: 2, 400: 2} {
		wantFull(t, slotRingHome(2), both, ticks, want)
	}
	// one by one the slots of the greatest ring are filled by the last station, and stay so up to the first
	one := messagesAt(12, 0, 11, 10)
	for ticks, want := range map[int]int{11: 0, 12: 0, 13: 0, 400: 0} {
		wantFull(t, slotRing(12), one, ticks, want)
	}
	for ticks, want := range map[int]int{11: 0, 12: 1, 13: 1, 400: 1} {
		wantFull(t, slotRingHome(12), one, ticks, want)
	}
	wantFull(t, slotRing(12), messagesAt(20, 0, 11, 10), 400, 0)
	wantFull(t, slotRingHome(2), append(slices.Clone(both), message(100, 0, 1), message(100, 1, 0)), 101, 3)
	wantFull(t, slotRingHome(2), append(slices.Clone(both), message(100, 0, 1), message(100, 1, 0)), 100, 2)
}

func TestQueueAtEdges(t *testing.T) {
	r := slotRingHome(2)
	messages := []impl.Message{message(0, 1, 0), message(0, 1, 0), message(0, 0, 1), message(1, 1, 0), message(3, 1, 0), message(100, 0, 1)}
	// what is freed at home goes to the other station first, which has nothing to send
	wantFilled(t, r, messages, 0, 3, 0, 4, 7, 100)
	for tick, want := range [][]int{{1}, {1, 3}, {1, 3}, {3, 4}, {4}, {4}, {4}, {}, {}} {
		wantQueue(t, r, messages, 1, tick, want...)
	}
	for _, tick := range []int{0, 1, 99, 100, 101, 399, 400} {
		wantQueue(t, r, messages, 0, tick)
	}
	waiting := []int{1, 2, 3, 4, 5, 6, 7, 8, 9, 10, 11, 12, 13, 14, 15, 16, 17, 18, 19}
	wantQueue(t, slotRing(12), messagesAt(20, 0, 0, 1), 0, 0, waiting...)
	wantQueue(t, slotRing(12), messagesAt(20, 100, 11, 1), 11, 99)
	wantQueue(t, slotRing(12), messagesAt(20, 100, 11, 1), 11, 100, waiting...)
	wantQueue(t, slotRing(12), messagesAt(20, 100, 11, 1), 11, 101, waiting[1:]...)
	wantQueue(t, slotRing(12), messagesAt(20, 100, 11, 1), 11, 400)
	wantQueue(t, slotRing(12), messagesAt(20, 100, 11, 1), 10, 100)
}

// checkSlots compares what the program tells of messages with a plain walk.
func checkSlots(t *testing.T, r impl.SlotRing, messages []impl.Message, ticks ...int) {
	t.Helper()
	w := walkSlots(r, messages, slices.Max(append(ticks, 0))+1)
	name := " of " + textOfMessages(r, messages)
	wantFilled(t, r, messages, w.filled...)
	read, ok := impl.ReadAt(r, messages)
	wantInts(t, "ReadAt"+name, read, ok, w.read)
	last, ok := impl.LastRead(r, messages)
	wantInt(t, "LastRead"+name, last, ok, slices.Max(append(w.read, 0)))
	for _, tick := range ticks {
		wantSlots(t, r, messages, tick, w.slots[tick]...)
		wantFull(t, r, messages, tick, w.fullTicks(tick))
		for s := range r.Stations {
			wantQueue(t, r, messages, s, tick, w.queues[tick][s]...)
		}
	}
	checkMessageOrder(t, r, messages)
	checkSlotBound(t, r, messages)
}

// checkMessageOrder wants messages to be read their hops behind the tick at which they fill a slot, and
// those of one station to do that in their order, one at a tick, none before it comes.
func checkMessageOrder(t *testing.T, r impl.SlotRing, messages []impl.Message) {
	t.Helper()
	filled, _ := impl.FilledAt(r, messages)
	read, _ := impl.ReadAt(r, messages)
	if len(filled) != len(messages) || len(read) != len(messages) {
		t.Errorf("%s: filled at %v, read at %v", textOfMessages(r, messages), filled, read)
		return
	}
	before := slices.Repeat([]int{-1}, r.Stations)
	for i, m := range messages {
		hops, ok := impl.HopsOfMessage(r, m)
		if !ok || read[i] != filled[i]+hops {
			t.Errorf("%s: %d fills at %d, has the hops %d, and is read at %d", textOfMessages(r, messages), i, filled[i], hops, read[i])
		}
		if filled[i] < m.Tick || filled[i] <= before[m.From] {
			t.Errorf("%s: %d fills at %d, the one before it at %d", textOfMessages(r, messages), i, filled[i], before[m.From])
		}
		before[m.From] = filled[i]
	}
}

// checkHolding wants each message to be in one slot, from the tick at which it fills it until it is read, or
// until the slot is at home again, and FullTicks to count the ticks behind which all slots have one.
func checkHolding(t *testing.T, r impl.SlotRing, messages []impl.Message) {
	t.Helper()
	filled, _ := impl.FilledAt(r, messages)
	read, _ := impl.ReadAt(r, messages)
	count := 0
	for tick := range impl.MaxSlotTick + 1 {
		wantFull(t, r, messages, tick, count)
		slots, ok := impl.SlotsAt(r, messages, tick)
		if !ok || len(slots) != r.Stations {
			t.Errorf("%s: SlotsAt %d: %v, %v", textOfMessages(r, messages), tick, slots, ok)
		}
		if !slices.Contains(slots, 0) {
			count++
		}
		for i := range messages {
			end, want, got := read[i], 0, 0
			if r.FreeAtHome {
				end = filled[i] + r.Stations
			}
			if filled[i] <= tick && tick < end {
				want = 1
			}
			for _, number := range slots {
				if number == i+1 {
					got++
				}
			}
			if got != want {
				t.Errorf("%s: behind %d, %d is in %d slots, want %d", textOfMessages(r, messages), tick, i, got, want)
			}
		}
	}
}

func everySlotTick() []int {
	every := make([]int, impl.MaxSlotTick+1)
	for tick := range every {
		every[tick] = tick
	}
	return every
}

func TestSlotsOfEdges(t *testing.T) {
	for _, r := range slotRings() {
		n := r.Stations
		for _, messages := range edgeMessagesFor(n) {
			ticks := []int{0, 1, 2, n - 1, n, n + 1, 2 * n, 2*n + 1, 50, 51, 99, 100, 101, 100 + n, 101 + n, impl.MaxSlotTick - 1, impl.MaxSlotTick}
			last, _ := impl.LastRead(r, messages)
			checkSlots(t, r, messages, append(ticks, max(last, 1)-1, last, last+1)...)
		}
	}
}

func TestSlotsOfAllTicks(t *testing.T) {
	random := &numbers{31}
	for _, stations := range []int{2, 3, 5, 12} {
		for _, r := range []impl.SlotRing{slotRing(stations), slotRingHome(stations)} {
			for _, ticks := range []int{1, 20, 101} {
				messages := random.messages(stations, ticks, stations)
				checkSlots(t, r, messages, everySlotTick()...)
				checkHolding(t, r, messages)
			}
			checkSlots(t, r, messagesAt(impl.MaxMessages, 100, 0, stations-1), everySlotTick()...)
			checkHolding(t, r, messagesAt(impl.MaxMessages, 100, 0, stations-1))
		}
	}
}

func TestSlotsOfAllFewMessages(t *testing.T) {
	ticks := []int{0, 1, 2, 3, 4, 5, 6, 7, 8, 9, 10}
	for _, c := range []struct{ stations, messages, last int }{
		{2, 1, 5}, {2, 2, 4}, {2, 3, 3}, {2, 4, 2}, {2, 5, 1}, {2, 7, 0},
		{3, 1, 7}, {3, 2, 4}, {3, 3, 1}, {3, 4, 0}, {4, 2, 3}, {5, 2, 1},
	} {
		everyMessages(c.stations, c.messages, c.last, func(messages []impl.Message) {
			checkSlots(t, slotRing(c.stations), messages, ticks...)
			checkSlots(t, slotRingHome(c.stations), messages, ticks...)
		})
	}
}

func TestSlotsOfManyMessages(t *testing.T) {
	random := &numbers{37}
	for i := range 400 {
		stations := 2 + random.below(11)
		messages := random.messages(stations, []int{1, 10, 40, 101}[i%4], []int{1, 2, 12}[i%3])
		checkSlots(t, slotRing(stations), messages, append(random.list(6, 150), random.below(401), 400)...)
		checkSlots(t, slotRingHome(stations), messages, append(random.list(6, 150), random.below(401), 400)...)
	}
	for range 300 { // small rings, on which messages wait often
		stations := 2 + random.below(3)
		messages := random.messages(stations, 1+random.below(20), 1+random.below(3))
		checkSlots(t, slotRing(stations), messages, random.list(10, 60)...)
		checkSlots(t, slotRingHome(stations), messages, random.list(10, 90)...)
	}
}

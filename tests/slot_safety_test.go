package tests

import (
	"math"
	"slices"
	"sync"
	"testing"

	"loop.example/g01176/impl"
)

func slotFunctions() map[string]any {
	return map[string]any{
		"IsSlotRing":    impl.IsSlotRing,
		"AreMessages":   impl.AreMessages,
		"FilledAt":      impl.FilledAt,
		"ReadAt":        impl.ReadAt,
		"SlotsAt":       impl.SlotsAt,
		"HopsOfMessage": impl.HopsOfMessage,
		"LastRead":      impl.LastRead,
		"SlotBound":     impl.SlotBound,
		"FullTicks":     impl.FullTicks,
		"LoadOfLinks":   impl.LoadOfLinks,
		"QueueAt":       impl.QueueAt,
		"TurnMessages":  impl.TurnMessages,
	}
}

func slotPools() pools {
	p := pools{}
	for _, stations := range []int{2, 3, 12, 0, 1, -3, 13, math.MaxInt} {
		p.add(slotRing(stations), slotRingHome(stations))
	}
	p.add([]impl.Message(nil), []impl.Message{}, exampleMessages, append(messagesAt(5, 0, 0, 1), messagesAt(5, 1, 1, 0)...))
	p.add(messagesAt(20, 100, 1, 0), messagesAt(20, 0, 0, 1), messagesAt(21, 0, 0, 1))
	for _, messages := range slices.Concat(edgeMessagesFor(3)[1:4], edgeMessagesFor(12)[2:4], notMessagesFor(2)) {
		p.add(messages)
		if len(messages) == 1 {
			p.add(messages[0])
		}
	}
	p.add(-1, 0, 1, 2, 12, 400, 401, 1<<32, math.MinInt, math.MaxInt)
	return p
}

func TestSlotsAreSafe(t *testing.T) {
	p := slotPools()
	for name, function := range slotFunctions() {
		checkSafety(t, name, function, p)
	}
}

// Calls at the same time, of the same arguments, do not disturb each other.
func TestSlotsAtTheSameTime(t *testing.T) {
	r := slotRingHome(5)
	random := &numbers{43}
	var lists [][]impl.Message
	for range 20 {
		lists = append(lists, random.messages(5, 30, 5))
	}
	var callers sync.WaitGroup
	for range 8 {
		callers.Go(func() {
			for _, messages := range lists {
				w := walkSlots(r, messages, 41)
				wantFilled(t, r, messages, w.filled...)
				wantSlots(t, r, messages, 40, w.slots[40]...)
			}
		})
	}
	callers.Wait()
}

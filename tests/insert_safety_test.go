package tests

import (
	"math"
	"sync"
	"testing"

	"loop.example/g01176/impl"
)

func insertFunctions() map[string]any {
	return map[string]any{
		"IsInsertRing":      impl.IsInsertRing,
		"InsertedAt":        impl.InsertedAt,
		"InsertRead":        impl.InsertRead,
		"BuffersAt":         impl.BuffersAt,
		"LinksAt":           impl.LinksAt,
		"BufferPeak":        impl.BufferPeak,
		"LastInsertRead":    impl.LastInsertRead,
		"DelaysOfCells":     impl.DelaysOfCells,
		"LongestInsertWait": impl.LongestInsertWait,
		"CellsUnderway":     impl.CellsUnderway,
		"TurnInserted":      impl.TurnInserted,
		"IdleTicks":         impl.IdleTicks,
	}
}

func insertPools() pools {
	p := pools{}
	for _, stations := range []int{3, 12, 2, 0, 1, -3, 13, math.MaxInt} {
		p.add(insertRing(stations, 2), insertRingOwn(stations, 4))
	}
	for _, room := range []int{1, 20, 0, 21, -1, math.MinInt, math.MaxInt} {
		p.add(insertRingOwn(3, room))
	}
	for _, messages := range append(someMessages(), insertExample, crowd(5, 3), messagesAt(20, 100, 2, 1)) {
		p.add(messages)
	}
	for _, messages := range notMessagesFor(3)[:25] {
		p.add(messages)
	}
	p.add(-1, 0, 1, 2, 3, 12, 600, 601, math.MinInt, math.MaxInt)
	return p
}

func TestInsertsAreSafe(t *testing.T) {
	p := insertPools()
	for name, function := range insertFunctions() {
		checkSafety(t, name, function, p)
	}
}

// The rows of one answer share no memory, also where some have several cells and others none.
func TestBuffersAreApart(t *testing.T) {
	messages := append(crowd(5, 5), message(1, 0, 4), message(1, 1, 0), message(1, 3, 2))
	p := pools{}
	p.add(insertRingOwn(5, 3), insertRingOwn(5, 6), insertRing(5, 3))
	p.add(messages)
	p.add(0, 1, 2, 3, 4, 5, 6, 7, 8, 9, 10, 11, 12)
	checkSafety(t, "BuffersAt", impl.BuffersAt, p)
	wantBuffers(t, insertRingOwn(5, 6), messages, 3, nil, nil, []int{11, 10}, []int{0, 1, 2}, nil)
}

// Calls at the same time, of the same arguments, do not disturb each other.
func TestInsertsAtTheSameTime(t *testing.T) {
	r := insertRingOwn(5, 3)
	random := &numbers{71}
	var lists [][]impl.Message
	for range 20 {
		lists = append(lists, random.messages(5, 10, 5))
	}
	var callers sync.WaitGroup
	for range 8 {
		callers.Go(func() {
			for _, messages := range lists {
				w := walkInserts(r, messages, 11)
				wantInserted(t, r, messages, w.inserted...)
				wantBuffers(t, r, messages, 10, w.buffers[10]...)
			}
		})
	}
	callers.Wait()
}

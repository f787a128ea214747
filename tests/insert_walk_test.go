package tests

import (
	"fmt"
	"slices"
	"testing"

	"loop.example/g01176/impl"
)

func wantInserted(t *testing.T, r impl.InsertRing, messages []impl.Message, want ...int) {
	t.Helper()
	got, ok := impl.InsertedAt(r, messages)
	wantInts(t, "InsertedAt "+textOfInserts(r, messages), got, ok, want)
}

func wantInsertRead(t *testing.T, r impl.InsertRing, messages []impl.Message, want ...int) {
	t.Helper()
	got, ok := impl.InsertRead(r, messages)
	wantInts(t, "InsertRead "+textOfInserts(r, messages), got, ok, want)
}

func wantBuffers(t *testing.T, r impl.InsertRing, messages []impl.Message, tick int, want ...[]int) {
	t.Helper()
	got, ok := impl.BuffersAt(r, messages, tick)
	wantLists(t, fmt.Sprint("BuffersAt ", tick, " of ", textOfInserts(r, messages)), got, ok, want)
}

func wantLinks(t *testing.T, r impl.InsertRing, messages []impl.Message, tick int, want ...int) {
	t.Helper()
	got, ok := impl.LinksAt(r, messages, tick)
	wantInts(t, fmt.Sprint("LinksAt ", tick, " of ", textOfInserts(r, messages)), got, ok, want)
}

func TestInsertExample(t *testing.T) {
	for _, c := range []struct {
		ring                   impl.InsertRing
		inserted, read, delays []int
		links                  [][]int
		waits                  [][]int // in the buffer of the station 1
	}{
		{insertRing(3, 2), []int{0, 2}, []int{2, 4}, []int{0, 0}, [][]int{{1, 0, 0}, {0, 1, 0}, {0, 2, 0}, {0, 0, 2}, {0, 0, 0}, {0, 0, 0}}, [][]int{{}, {}, {}, {}, {}, {}}},
		{insertRingOwn(3, 1), []int{0, 2}, []int{2, 4}, []int{0, 0}, [][]int{{1, 0, 0}, {0, 1, 0}, {0, 2, 0}, {0, 0, 2}, {0, 0, 0}, {0, 0, 0}}, [][]int{{}, {}, {}, {}, {}, {}}},
		{insertRingOwn(3, 2), []int{0, 1}, []int{3, 3}, []int{1, 0}, [][]int{{1, 0, 0}, {0, 2, 0}, {0, 1, 2}, {0, 0, 0}, {0, 0, 0}}, [][]int{{}, {0}, {}, {}, {}}},
		{insertRingOwn(3, 20), []int{0, 1}, []int{3, 3}, []int{1, 0}, [][]int{{1, 0, 0}, {0, 2, 0}, {0, 1, 2}, {0, 0, 0}, {0, 0, 0}}, [][]int{{}, {0}, {}, {}, {}}},
	} {
		wantInserted(t, c.ring, insertExample, c.inserted...)
		wantInsertRead(t, c.ring, insertExample, c.read...)
		delays, ok := impl.DelaysOfCells(c.ring, insertExample)
		wantInts(t, fmt.Sprint("DelaysOfCells ", c.ring), delays, ok, c.delays)
		for tick := range c.links {
			wantLinks(t, c.ring, insertExample, tick, c.links[tick]...)
			wantBuffers(t, c.ring, insertExample, tick, nil, c.waits[tick], nil)
		}
	}
}

// A cell comes to a station whose buffer is full but for one, while own cells wait there: at this tick the
// first cell of the buffer is sent, although an own one was sent before and is sent next.
func TestOwnCellsWaitForFullBuffers(t *testing.T) {
	messages := crowd(3, 3)
	r := insertRingOwn(3, 2)
	wantInserted(t, r, messages, 0, 1, 2, 1, 4, 5)
	wantInsertRead(t, r, messages, 3, 4, 7, 2, 5, 6)
	for tick, want := range []struct{ links, buffer []int }{
		{[]int{1, 0, 0}, nil}, {[]int{2, 4, 0}, []int{0}}, {[]int{3, 1, 0}, []int{1}}, {[]int{0, 2, 0}, []int{2}},
		{[]int{0, 5, 0}, []int{2}}, {[]int{0, 6, 0}, []int{2}}, {[]int{0, 3, 0}, nil}, {[]int{0, 0, 0}, nil},
	} {
		wantLinks(t, r, messages, tick, want.links...)
		wantBuffers(t, r, messages, tick, nil, want.buffer, nil)
	}
	r = insertRingOwn(3, 3)
	wantInserted(t, r, messages, 0, 1, 2, 1, 2, 4)
	wantInsertRead(t, r, messages, 4, 6, 7, 2, 3, 5)
	wantBuffers(t, r, messages, 2, nil, []int{0, 1}, nil)
	wantBuffers(t, r, messages, 3, nil, []int{1, 2}, nil)
	wantBuffers(t, r, messages, 4, nil, []int{1, 2}, nil)
	wantBuffers(t, r, messages, 5, nil, []int{2}, nil)
	for _, other := range []impl.InsertRing{insertRingOwn(3, 1), insertRing(3, 1), insertRing(3, 3), insertRing(3, 20)} {
		wantInserted(t, other, messages, 0, 1, 2, 4, 5, 6)
		wantInsertRead(t, other, messages, 2, 3, 4, 5, 6, 7)
	}
	for _, room := range []int{4, 5, 20} {
		wantInserted(t, insertRingOwn(3, room), messages, 0, 1, 2, 1, 2, 3)
		wantInsertRead(t, insertRingOwn(3, room), messages, 5, 6, 7, 2, 3, 4)
	}
}

// Ten cells come to a station with ten own ones. It sends own ones until its buffer is full, then those of
// the buffer while others come, and the rest of its own ones when no others come.
func TestRoomsOfAllSizes(t *testing.T) {
	messages := crowd(10, 12)
	for room := 1; room <= 20; room++ {
		r := insertRingOwn(12, room)
		ahead := min(room-1, 10) // own cells
		var want []int
		for k := range 10 {
			want = append(want, k)
		}
		for k := range 10 {
			if k < ahead {
				want = append(want, k+1)
			} else {
				want = append(want, k+11-ahead)
			}
		}
		wantInserted(t, r, messages, want...)
		peak, ok := impl.BufferPeak(r, messages)
		wantInt(t, fmt.Sprint("BufferPeak ", r), peak, ok, ahead)
		longest, ok := impl.LongestInsertWait(r, messages)
		wantInt(t, fmt.Sprint("LongestInsertWait ", r), longest, ok, 19-ahead)
		idle, ok := impl.IdleTicks(r, messages, 10, 600)
		wantInt(t, fmt.Sprint("IdleTicks ", r), idle, ok, 580)
	}
}

// A station that reads a cell sends at the same tick: what it reads does not go to its buffer.
func TestReadAndSentAtOneTick(t *testing.T) {
	both := append(messagesAt(2, 0, 0, 1), messagesAt(2, 0, 1, 0)...)
	for _, r := range []impl.InsertRing{insertRing(2, 1), insertRing(2, 20), insertRingOwn(2, 1), insertRingOwn(2, 20)} {
		wantInserted(t, r, both, 0, 1, 0, 1)
		wantInsertRead(t, r, both, 1, 2, 1, 2)
		wantLinks(t, r, both, 0, 1, 3)
		wantLinks(t, r, both, 1, 2, 4)
		wantLinks(t, r, both, 2, 0, 0)
		wantBuffers(t, r, both, 1, nil, nil)
	}
	around := []impl.Message{message(0, 0, 1), message(1, 1, 2), message(2, 2, 0), message(3, 0, 2)}
	for _, r := range []impl.InsertRing{insertRing(3, 1), insertRingOwn(3, 4)} {
		wantInserted(t, r, around, 0, 1, 2, 3)
		wantInsertRead(t, r, around, 1, 2, 3, 5)
	}
}

// A message that comes at the tick at which its station would pass on a cell is own at this tick.
func TestOwnCellsComeAtTheirTick(t *testing.T) {
	r := insertRingOwn(3, 2)
	for _, c := range []struct {
		tick  int // at which the own one comes
		links [][]int
	}{
		{0, [][]int{{1, 2, 0}, {0, 1, 2}, {0, 0, 0}}},
		{1, [][]int{{1, 0, 0}, {0, 2, 0}, {0, 1, 2}, {0, 0, 0}}},
		{2, [][]int{{1, 0, 0}, {0, 1, 0}, {0, 2, 0}, {0, 0, 2}, {0, 0, 0}}},
		{3, [][]int{{1, 0, 0}, {0, 1, 0}, {0, 0, 0}, {0, 2, 0}, {0, 0, 2}, {0, 0, 0}}},
	} {
		messages := []impl.Message{message(0, 0, 2), message(c.tick, 1, 0)}
		wantInserted(t, r, messages, 0, c.tick)
		for tick, links := range c.links {
			wantLinks(t, r, messages, tick, links...)
		}
	}
	for tick, own := range []int{0, 2, 2, 3} {
		wantInserted(t, insertRing(3, 2), []impl.Message{message(0, 0, 2), message(tick, 1, 0)}, 0, own)
	}
}

// Without own cells, buffers pass on at once what comes.
func TestCellsGoAround(t *testing.T) {
	for _, r := range insertRings() {
		for _, tick := range []int{0, 100} {
			for from := range r.Stations {
				m := []impl.Message{message(tick, from, (from+r.Stations-1)%r.Stations)}
				wantInserted(t, r, m, tick)
				wantInsertRead(t, r, m, tick+r.Stations-1)
				for i := range r.Stations + 1 {
					want := zeros(r.Stations)
					if i < r.Stations-1 {
						want[(from+i)%r.Stations] = 1
					}
					wantLinks(t, r, m, tick+i, want...)
					wantBuffers(t, r, m, tick+i, make([][]int, r.Stations)...)
				}
			}
		}
	}
}

// All twenty messages of one tick and one station are sent one at a tick.
func TestManyCellsOfOneStation(t *testing.T) {
	for _, r := range insertRings() {
		for _, tick := range []int{0, 100} {
			messages := messagesAt(impl.MaxMessages, tick, r.Stations-1, r.Stations-2)
			var inserted, read []int
			for i := range messages {
				inserted = append(inserted, tick+i)
				read = append(read, tick+i+r.Stations-1)
			}
			wantInserted(t, r, messages, inserted...)
			wantInsertRead(t, r, messages, read...)
		}
	}
}

// checkInserts compares what the program tells of messages with a plain walk.
func checkInserts(t *testing.T, r impl.InsertRing, messages []impl.Message, ticks ...int) {
	t.Helper()
	w := walkInserts(r, messages, slices.Max(append(ticks, 0))+1)
	name := textOfInserts(r, messages)
	wantInserted(t, r, messages, w.inserted...)
	wantInsertRead(t, r, messages, w.read...)
	peak, ok := impl.BufferPeak(r, messages)
	wantInt(t, "BufferPeak "+name, peak, ok, w.peak())
	for _, tick := range ticks {
		wantBuffers(t, r, messages, tick, w.buffers[tick]...)
		wantLinks(t, r, messages, tick, w.links[tick]...)
		underway, ok := impl.CellsUnderway(r, messages, tick)
		wantInt(t, fmt.Sprint("CellsUnderway ", tick, " of ", name), underway, ok, w.underway(tick))
		for s := range r.Stations {
			idle, ok := impl.IdleTicks(r, messages, s, tick)
			wantInt(t, fmt.Sprint("IdleTicks ", s, ", ", tick, " of ", name), idle, ok, w.idle(s, tick))
		}
	}
	checkInsertOrder(t, r, messages)
	checkInsertNumbers(t, r, messages)
}

// checkInsertOrder wants the cells of one station to be inserted in their order, one at a tick and none
// before it comes, and those of one station to one other to be read in their order.
func checkInsertOrder(t *testing.T, r impl.InsertRing, messages []impl.Message) {
	t.Helper()
	inserted, _ := impl.InsertedAt(r, messages)
	read, _ := impl.InsertRead(r, messages)
	if len(inserted) != len(messages) || len(read) != len(messages) {
		t.Errorf("%s: inserted at %v, read at %v", textOfInserts(r, messages), inserted, read)
		return
	}
	for i, m := range messages {
		if inserted[i] < m.Tick || read[i] < inserted[i]+plainHops(r.Stations, m) {
			t.Errorf("%s: %d is inserted at %d and read at %d", textOfInserts(r, messages), i, inserted[i], read[i])
		}
		for k, other := range messages[:i] {
			if other.From == m.From && inserted[k] >= inserted[i] {
				t.Errorf("%s: %d is inserted at %d, %d at %d", textOfInserts(r, messages), k, inserted[k], i, inserted[i])
			}
			if other.From == m.From && other.To == m.To && read[k] >= read[i] {
				t.Errorf("%s: %d is read at %d, %d at %d", textOfInserts(r, messages), k, read[k], i, read[i])
			}
		}
	}
}

func TestInsertsOfEdges(t *testing.T) {
	for _, r := range insertRings() {
		n := r.Stations
		for _, messages := range insertMessagesFor(n) {
			last, _ := impl.LastInsertRead(r, messages)
			checkInserts(t, r, messages, 0, 1, 2, n-1, n, n+1, 50, 100, 101, max(last, 1)-1, last, last+1, impl.MaxInsertTick)
		}
	}
}

func TestInsertsOfAllTicks(t *testing.T) {
	every := make([]int, impl.MaxInsertTick+1)
	for tick := range every {
		every[tick] = tick
	}
	random := &numbers{47}
	for _, r := range []impl.InsertRing{insertRing(2, 3), insertRing(5, 1), insertRingOwn(3, 2), insertRingOwn(4, 20)} {
		checkInserts(t, r, random.messages(r.Stations, 101, r.Stations), every...)
		checkInserts(t, r, random.messages(r.Stations, 10, r.Stations), every...)
	}
	for _, r := range []impl.InsertRing{insertRing(5, 3), insertRing(12, 1), insertRingOwn(12, 2), insertRingOwn(7, 20)} {
		checkInserts(t, r, append(crowd(5, r.Stations), messagesAt(10, 60, 1, 0)...), every[:200]...)
	}
}

func TestInsertsOfAllFewMessages(t *testing.T) {
	ticks := []int{0, 1, 2, 3, 4, 5, 6}
	for _, c := range []struct{ stations, messages, last int }{
		{2, 1, 5}, {2, 2, 3}, {2, 3, 2}, {2, 5, 1},
		{3, 1, 4}, {3, 2, 3}, {3, 3, 1}, {3, 4, 0}, {4, 2, 2}, {5, 2, 1},
	} {
		everyMessages(c.stations, c.messages, c.last, func(messages []impl.Message) {
			for _, r := range []impl.InsertRing{insertRing(c.stations, 2), insertRingOwn(c.stations, 1), insertRingOwn(c.stations, 2), insertRingOwn(c.stations, 3)} {
				checkInserts(t, r, messages, ticks...)
			}
		})
	}
}

func TestInsertsOfManyMessages(t *testing.T) {
	random := &numbers{53}
	for i := range 500 {
		stations := 2 + random.below(11)
		messages := random.messages(stations, []int{1, 5, 20, 101}[i%4], []int{2, 3, 12}[i%3])
		ticks := append(random.list(4, 60), random.below(601))
		checkInserts(t, insertRing(stations, 1+random.below(20)), messages, ticks...)
		checkInserts(t, insertRingOwn(stations, 1+random.below(20)), messages, ticks...)
		checkInserts(t, insertRingOwn(stations, 1+random.below(4)), messages, ticks...)
	}
}

// A ring whose own cells are first, with a room of one, is like one whose own cells are last, of which the
// room is not asked.
func TestRoomOfOneIsOwnLast(t *testing.T) {
	random := &numbers{59}
	for range 200 {
		stations := 2 + random.below(11)
		messages := random.messages(stations, 20, stations)
		inserted, _ := impl.InsertedAt(insertRingOwn(stations, 1), messages)
		for _, room := range []int{1, 2, 20} {
			wantInserted(t, insertRing(stations, room), messages, inserted...)
		}
	}
}

package tests

import (
	"fmt"
	"math"
	"slices"

	"loop.example/g01176/impl"
)

// insertExample are the messages of the document's example, for a ring of 3 stations.
var insertExample = []impl.Message{message(0, 0, 2), message(1, 1, 0)}

func insertRing(stations, room int) impl.InsertRing {
	return impl.InsertRing{Stations: stations, Room: room}
}

func insertRingOwn(stations, room int) impl.InsertRing {
	return impl.InsertRing{Stations: stations, Room: room, OwnFirst: true}
}

// insertRings are all numbers of stations with the least and the greatest rooms, and some between.
func insertRings() []impl.InsertRing {
	var rings []impl.InsertRing
	for stations := 2; stations <= impl.MaxStations; stations++ {
		rings = append(rings, insertRing(stations, 1), insertRing(stations, 20))
		for _, room := range []int{1, 2, 3, 5, 20} {
			rings = append(rings, insertRingOwn(stations, room))
		}
	}
	return rings
}

func notInsertRings() []impl.InsertRing {
	var rings []impl.InsertRing
	for _, r := range notSlotRings() {
		rings = append(rings, impl.InsertRing{Stations: r.Stations, Room: 2, OwnFirst: r.FreeAtHome})
	}
	for _, room := range []int{0, 21, -1, -20, 22, 1 << 32, 1<<32 + 1, math.MinInt, math.MaxInt} {
		for _, stations := range []int{2, 3, impl.MaxStations} {
			rings = append(rings, insertRing(stations, room), insertRingOwn(stations, room))
		}
	}
	return append(rings, impl.InsertRing{}, insertRingOwn(0, 0), insertRing(13, 21), insertRingOwn(20, 3))
}

// someMessages are fine for all rings with as many stations, and lists that are not fine for any.
func someMessages() [][]impl.Message {
	return [][]impl.Message{nil, {}, {message(0, 0, 1)}, {message(100, 1, 0)}, messagesAt(20, 0, 0, 1), messagesAt(21, 0, 0, 1), {message(0, 0, 0)}}
}

// crowd are so many messages over the station before, which has as many own ones at the next tick, to the
// same station.
func crowd(n, stations int) []impl.Message {
	return append(messagesAt(n, 0, stations-3, stations-1), messagesAt(n, 1, stations-2, stations-1)...)
}

// crowdedMessagesFor are messages for which cells of others wait in buffers.
func crowdedMessagesFor(stations int) [][]impl.Message {
	if stations < 3 {
		return nil
	}
	lists := [][]impl.Message{crowd(1, stations), crowd(2, stations), crowd(3, stations), crowd(10, stations)}
	var across, behind, late []impl.Message
	for i := range impl.MaxMessages {
		across = append(across, message(i/stations, i%stations, (i+stations-1)%stations))
		behind = append(behind, message(i/4, []int{0, 1}[i%2], stations-1))
		late = append(late, message(100, (i*2)%stations, (i*2+stations-1)%stations))
	}
	return append(lists, across, behind, late)
}

func insertMessagesFor(stations int) [][]impl.Message {
	return append(edgeMessagesFor(stations), crowdedMessagesFor(stations)...)
}

// plainInserts is what one writes down who looks at an insertion ring tick by tick.
type plainInserts struct {
	inserted []int     // for each message the tick at which its own station sends it
	read     []int     // and that at which it is read
	buffers  [][][]int // for each tick and station the buffer behind it
	links    [][]int   // for each tick and station 1 more than the cell that it sends, or 0
}

// walkInserts goes on for at least so many ticks, and until all cells are read.
func walkInserts(r impl.InsertRing, messages []impl.Message, ticks int) plainInserts {
	w := plainInserts{inserted: slices.Repeat([]int{-1}, len(messages)), read: slices.Repeat([]int{-1}, len(messages))}
	own, buffers := make([][]int, r.Stations), make([][]int, r.Stations)
	sent := zeros(r.Stations)
	for tick := 0; tick < ticks || slices.Contains(w.read, -1); tick++ {
		for i, m := range messages {
			if m.Tick == tick {
				own[m.From] = append(own[m.From], i)
			}
		}
		for from, number := range sent {
			s := (from + 1) % r.Stations
			switch {
			case number == 0:
			case messages[number-1].To == s:
				w.read[number-1] = tick
			default:
				buffers[s] = append(buffers[s], number-1)
			}
		}
		sent = zeros(r.Stations)
		for s := range sent {
			if len(own[s]) > 0 && sendsOwn(r, len(buffers[s])) {
				w.inserted[own[s][0]] = tick
				sent[s] = own[s][0] + 1
				own[s] = own[s][1:]
			} else if len(buffers[s]) > 0 {
				sent[s] = buffers[s][0] + 1
				buffers[s] = buffers[s][1:]
			}
		}
		w.links = append(w.links, sent)
		w.buffers = append(w.buffers, listsOf(buffers))
	}
	return w
}

// sendsOwn reports whether a station with so many cells in its buffer sends an own one if there is one.
func sendsOwn(r impl.InsertRing, buffered int) bool {
	if r.OwnFirst {
		return buffered < r.Room
	}
	return buffered == 0
}

func (w plainInserts) peak() int {
	peak := 0
	for _, buffers := range w.buffers {
		for _, buffer := range buffers {
			peak = max(peak, len(buffer))
		}
	}
	return peak
}

// underway counts the cells in buffers and on links behind a tick.
func (w plainInserts) underway(tick int) int {
	count := 0
	for _, buffer := range w.buffers[tick] {
		count += len(buffer)
	}
	for _, number := range w.links[tick] {
		if number > 0 {
			count++
		}
	}
	return count
}

func (w plainInserts) idle(s, ticks int) int {
	count := 0
	for _, links := range w.links[:ticks] {
		if links[s] == 0 {
			count++
		}
	}
	return count
}

func textOfInserts(r impl.InsertRing, messages []impl.Message) string {
	return fmt.Sprintf("%v, %.500s", r, fmt.Sprint(messages))
}

package tests

import (
	"fmt"
	"math"
	"slices"

	"loop.example/g01176/impl"
)

// exampleMessages are those of the document's example, for a ring of 3 stations.
var exampleMessages = []impl.Message{message(0, 0, 2), message(2, 2, 0)}

func slotRing(stations int) impl.SlotRing {
	return impl.SlotRing{Stations: stations}
}

func slotRingHome(stations int) impl.SlotRing {
	return impl.SlotRing{Stations: stations, FreeAtHome: true}
}

func message(tick, from, to int) impl.Message {
	return impl.Message{Tick: tick, From: from, To: to}
}

// messagesAt are so many messages at a tick from one station to another one.
func messagesAt(n, tick, from, to int) []impl.Message {
	return slices.Repeat([]impl.Message{message(tick, from, to)}, n)
}

// slotRings are all there are.
func slotRings() []impl.SlotRing {
	var rings []impl.SlotRing
	for stations := 2; stations <= impl.MaxStations; stations++ {
		rings = append(rings, slotRing(stations), slotRingHome(stations))
	}
	return rings
}

func notSlotRings() []impl.SlotRing {
	var rings []impl.SlotRing
	for _, stations := range []int{0, 1, -1, -2, -3, -12, 13, 14, 1 << 32, 1<<32 + 3, math.MinInt, math.MaxInt} {
		rings = append(rings, slotRing(stations), slotRingHome(stations))
	}
	return rings
}

// notMessagesFor are lists that are no messages for a ring of so many stations.
func notMessagesFor(n int) [][]impl.Message {
	return [][]impl.Message{
		{{}}, {message(-1, 0, 1)}, {message(101, 0, 1)}, {message(math.MinInt, 0, 1)}, {message(math.MaxInt, 0, 1)}, {message(1<<32, 0, 1)},
		{message(0, -1, 1)}, {message(0, n, 1)}, {message(0, n+1, 1)}, {message(0, math.MinInt, 1)}, {message(0, math.MaxInt, 1)}, {message(0, 1<<32, 1)},
		{message(0, 0, -1)}, {message(0, 0, n)}, {message(0, 0, n+1)}, {message(0, 0, math.MinInt)}, {message(0, 0, math.MaxInt)}, {message(0, 0, 1<<32+1)},
		{message(0, 1, 1)}, {message(100, n-1, n-1)}, {message(0, -1, -1)}, {message(0, n, n)}, {message(0, n, 0)}, {message(0, 1, 1<<32)},
		{message(1, 0, 1), message(0, 0, 1)}, {message(1, 0, 1), message(0, 1, 0)}, {message(100, 0, 1), message(99, 1, 0)},
		{message(0, 0, 1), message(7, 0, 1), message(6, 1, 0), message(8, 0, 1)}, {message(0, 0, 1), message(-1, 0, 1)},
		{message(0, 0, 1), message(0, 1, 0), message(0, 1, 1)}, {message(0, 0, 1), message(0, 1, n)}, {message(0, 0, 1), message(0, n, 1)},
		{message(0, 0, 1), {}}, {message(3, 0, 1), message(101, 0, 1)},
		messagesAt(21, 0, 0, 1), messagesAt(21, 100, 1, 0), messagesAt(200, 3, 1, 0), append(messagesAt(20, 3, 1, 0), message(3, 0, 1)),
		append(messagesAt(19, 3, 1, 0), message(2, 0, 1)), append(messagesAt(19, 3, 1, 0), message(3, 0, n)), append(messagesAt(19, 3, 1, 0), message(3, 0, 0)),
	}
}

// edgeMessagesFor are messages for a ring of so many stations: none, as many as there may be, of the first
// and the last ticks, over one link and over all but one, and such for which slots come free or full.
func edgeMessagesFor(n int) [][]impl.Message {
	last := n - 1
	lists := [][]impl.Message{
		nil,
		{message(0, 0, 1)}, {message(0, 0, last)}, {message(0, last, 0)}, {message(0, 1, 0)}, {message(1, 0, 1)},
		{message(100, 0, last)}, {message(100, last, 0)}, {message(100, last, last-1)}, {message(0, 0, 1), message(100, 1, 0)},
		messagesAt(impl.MaxMessages, 0, 0, 1), messagesAt(impl.MaxMessages, 0, 0, last), messagesAt(impl.MaxMessages, 0, last, 0),
		messagesAt(impl.MaxMessages, 100, 1, 0), messagesAt(impl.MaxMessages, 50, last, last-1), messagesAt(n, 0, 0, last), messagesAt(n+1, 7, last, 0),
		append(messagesAt(10, 0, 0, 1), messagesAt(10, 100, 0, 1)...),
		// the slot of the first one is read at last at the tick last, and is at home at the tick n
		{message(0, 0, last), message(last-1, last, 0)}, {message(0, 0, last), message(last, last, 0)}, {message(0, 0, last), message(last+1, last, 0)},
		{message(0, 0, last), message(n-1, 0, 1)}, {message(0, 0, last), message(n, 0, 1)}, {message(0, 0, last), message(n+1, 0, 1)},
		append(messagesAt(n, 0, 0, 1), message(n, 0, 1), message(n, 1, 0), message(n, 1, 0)),
	}
	var around, across, late, mixed []impl.Message
	for i := range impl.MaxMessages {
		around = append(around, message(0, i%n, (i+1)%n))
		across = append(across, message(3, i%n, (i+last)%n))
		late = append(late, message(81+i, i*i%n, (i*i+1+i%last)%n))
		mixed = append(mixed, message(i*2, i*5%n, (i*5+1+i*3%last)%n))
	}
	return append(lists, around, across, late, mixed)
}

// plainSlots is what one writes down who looks at a ring with slots tick by tick.
type plainSlots struct {
	filled []int     // for each message the tick at which it fills a slot
	read   []int     // and that at which it is read
	slots  [][]int   // for each tick and slot, behind it, 1 more than the index of its message, or 0
	queues [][][]int // for each tick and station, behind it, the messages that have come and are not sent
}

// walkSlots goes on for at least so many ticks, and until all messages are read.
func walkSlots(r impl.SlotRing, messages []impl.Message, ticks int) plainSlots {
	w := plainSlots{filled: slices.Repeat([]int{-1}, len(messages)), read: slices.Repeat([]int{-1}, len(messages))}
	slots := make([]int, r.Stations)
	queues := make([][]int, r.Stations)
	for tick := 0; tick < ticks || slices.Contains(w.read, -1); tick++ {
		for i, m := range messages {
			if m.Tick == tick {
				queues[m.From] = append(queues[m.From], i)
			}
		}
		readHere, freedHere := w.readSlots(r, messages, slots, tick)
		for k := range slots {
			s := (k + tick) % r.Stations
			if readHere[k] && !r.FreeAtHome {
				slots[k] = 0
			}
			if slots[k] == 0 && !freedHere[k] && len(queues[s]) > 0 {
				w.filled[queues[s][0]] = tick
				slots[k] = queues[s][0] + 1
				queues[s] = queues[s][1:]
			}
		}
		w.slots = append(w.slots, slices.Clone(slots))
		w.queues = append(w.queues, listsOf(queues))
	}
	return w
}

// readSlots reads the slots and frees those that are at home, if this is how they are freed. It tells which
// ones are read and which ones are freed.
func (w plainSlots) readSlots(r impl.SlotRing, messages []impl.Message, slots []int, tick int) (read, freed []bool) {
	read, freed = make([]bool, len(slots)), make([]bool, len(slots))
	for k, number := range slots {
		if number == 0 {
			continue
		}
		s, m := (k+tick)%r.Stations, messages[number-1]
		if s == m.To {
			w.read[number-1] = tick
			read[k] = true
		}
		if r.FreeAtHome && s == m.From && w.read[number-1] >= 0 {
			slots[k] = 0
			freed[k] = true
		}
	}
	return read, freed
}

func listsOf(lists [][]int) [][]int {
	copies := make([][]int, len(lists))
	for i, list := range lists {
		copies[i] = slices.Clone(list)
	}
	return copies
}

// fullTicks counts the first ticks behind which no slot is free.
func (w plainSlots) fullTicks(ticks int) int {
	count := 0
	for _, slots := range w.slots[:ticks] {
		if !slices.Contains(slots, 0) {
			count++
		}
	}
	return count
}

// plainHops goes from link to link until one is at the other station.
func plainHops(stations int, m impl.Message) int {
	hops := 0
	for s := m.From; s != m.To; hops++ {
		s++
		if s == stations {
			s = 0
		}
	}
	return hops
}

// plainLoads lets each link count the messages whose way begins as many links before it as they have hops
// still to go.
func plainLoads(stations int, messages []impl.Message) []int {
	loads := make([]int, stations)
	for link := range loads {
		for _, m := range messages {
			if plainHops(stations, message(0, m.From, link)) < plainHops(stations, m) {
				loads[link]++
			}
		}
	}
	return loads
}

func textOfMessages(r impl.SlotRing, messages []impl.Message) string {
	return fmt.Sprintf("%v, %.500s", r, fmt.Sprint(messages))
}

// everyMessages calls see with all lists of n messages at ticks up to last.
func everyMessages(stations, n, last int, see func(messages []impl.Message)) {
	messages := make([]impl.Message, 0, n)
	var extend func(first int)
	extend = func(first int) {
		if len(messages) == n {
			see(messages)
			return
		}
		for tick := first; tick <= last; tick++ {
			for from := range stations {
				for to := range stations {
					if from == to {
						continue
					}
					messages = append(messages, message(tick, from, to))
					extend(tick)
					messages = messages[:len(messages)-1]
				}
			}
		}
	}
	extend(0)
}

// messages are up to MaxMessages for a ring of so many stations, within so many ticks, from so many of its
// last stations.
func (n *numbers) messages(stations, ticks, senders int) []impl.Message {
	begins := n.list(n.below(impl.MaxMessages+1), ticks)
	slices.Sort(begins)
	var messages []impl.Message
	for _, tick := range begins {
		from := stations - 1 - n.below(min(senders, stations))
		messages = append(messages, message(tick, from, (from+1+n.below(stations-1))%stations))
	}
	return messages
}

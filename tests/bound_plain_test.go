package tests

import (
	"fmt"
	"math"
	"slices"

	"loop.example/g01176/impl"
)

// exampleTimedRing, exampleServer and exampleBucket are those of the document's example.
var exampleTimedRing = timedRing(10, 1, 1, 1, 1)

var exampleServer = server(3, 2)

var exampleBucket = bucket(2, 7)

// mostServed is how many ticks what a server sends has at most.
const mostServed = 100

func timedRing(target, walk int, fixed ...int) impl.TimedRing {
	return impl.TimedRing{Target: target, Walk: walk, Fixed: fixed}
}

func server(rate, latency int) impl.Server {
	return impl.Server{Rate: rate, Latency: latency}
}

// edgeTimedRings have the least and the greatest numbers, and often just the Target with all that is fixed.
func edgeTimedRings() []impl.TimedRing {
	return []impl.TimedRing{
		timedRing(1, 1, 0), timedRing(2, 1, 1), timedRing(2, 1, 0), timedRing(200, 1, 0), timedRing(200, 1, 199), timedRing(200, 20, 180), timedRing(20, 20, 0),
		timedRing(200, 20, zeros(10)...), timedRing(12, 1, zeros(12)...), timedRing(200, 16, zeros(12)...), timedRing(200, 16, 0, 0, 0, 8, 0, 0, 0, 0, 0, 0, 0, 0),
		timedRing(24, 1, ones(12)...), timedRing(200, 1, ones(12)...), exampleTimedRing, timedRing(6, 1, 1, 1, 1), timedRing(10, 1, 0, 8), timedRing(10, 1, 8, 0),
		timedRing(6, 2, 1, 0), timedRing(50, 3, 5, 0, 7, 1), timedRing(200, 2, rising(12)...), timedRing(200, 1, 0, 0, 197), timedRing(2, 1, 0, 0),
	}
}

func notTimedRings() []impl.TimedRing {
	rings := []impl.TimedRing{
		{}, timedRing(10, 1), {Target: 10, Walk: 1, Fixed: []int{}}, timedRing(200, 1, zeros(13)...), timedRing(200, 1, zeros(100)...), timedRing(200, 1, zeros(1<<10)...),
		timedRing(2, 1, 1, 1), timedRing(1, 1, 1), timedRing(5, 1, 1, 1, 1), timedRing(1, 2, 0), timedRing(19, 20, 0), timedRing(200, 20, zeros(11)...), timedRing(200, 16, 0, 9, 0, 0, 0, 0, 0, 0, 0, 0, 0, 0),
		timedRing(23, 1, ones(12)...), timedRing(9, 1, 0, 8), timedRing(200, 17, zeros(12)...), timedRing(200, 1, 200), timedRing(200, 1, 100, 99), timedRing(200, 1, 201), timedRing(201, 1, 200), timedRing(1000, 1, 201),
		timedRing(math.MaxInt, math.MaxInt, math.MaxInt), timedRing(math.MinInt, math.MinInt, math.MinInt), timedRing(10, 1, math.MaxInt, math.MaxInt, 2),
		timedRing(10, 1, 1<<62, 1<<62, 1<<62, 1<<62), timedRing(10, 1<<62, 1, 1, 1, 1), timedRing(10, 1, 3, -3), timedRing(10, 1, -1, 9, 0), timedRing(200, 1, alike(12, 17)...),
	}
	for _, n := range []int{-1, 0, 201, -200, 202, 1 << 32, 1<<32 + 10, math.MinInt, math.MaxInt} {
		rings = append(rings, timedRing(n, 1, 0), timedRing(n, 1, 1, 1, 1))
	}
	for _, n := range []int{-1, 0, 21, -20, 22, 1 << 32, 1<<32 + 1, math.MinInt, math.MaxInt} {
		rings = append(rings, timedRing(200, n, 0), timedRing(200, n, 1, 1, 1))
	}
	for _, n := range []int{-1, 201, -200, 1 << 32, math.MinInt, math.MaxInt} {
		rings = append(rings, timedRing(200, 1, n), timedRing(200, 1, n, 0, 0), timedRing(200, 1, 0, 0, n))
	}
	return rings
}

// edgeWishesFor are wishes for a ring of n stations: of no round, of MaxRounds rounds, with the least and the
// greatest numbers, and of one station or of one round alone.
func edgeWishesFor(n int) [][][]int {
	lists := [][][]int{nil, {}, {zeros(n)}, {alike(n, 200)}, {zeros(n), zeros(n)}, {alike(n, 200), alike(n, 200)}}
	for _, wish := range []int{0, 1, 10, 200} {
		lists = append(lists, roundsOf(20, alike(n, wish)))
	}
	for _, s := range []int{0, n / 2, n - 1} {
		alone := zeros(n)
		alone[s] = 200
		rest := roundsOf(10, zeros(n))
		lists = append(lists, roundsOf(20, alone), append(roundsOf(1, alone), rest...), append(rest, alone))
	}
	return append(lists, roundsOf(3, rising(n)), slices.Concat(roundsOf(9, zeros(n)), roundsOf(2, alike(n, 200)), roundsOf(9, ones(n))))
}

// notWishesFor are lists that are no wishes for a ring of n stations.
func notWishesFor(n int) [][][]int {
	lists := [][][]int{
		roundsOf(21, zeros(n)), roundsOf(21, ones(n)), roundsOf(1000, zeros(n)), roundsOf(21, nil), {nil}, {{}}, {zeros(n), nil}, {nil, zeros(n)},
		{zeros(n - 1)}, {zeros(n + 1)}, {zeros(n), zeros(n + 1)}, {zeros(n), zeros(n - 1)}, {zeros(n + 1), zeros(n - 1)}, {zeros(2 * n)}, {zeros(100)},
		append(roundsOf(19, zeros(n)), zeros(n+1)), append(roundsOf(19, zeros(n)), zeros(n-1)), roundsOf(2, zeros(n+1)), roundsOf(n, zeros(n+1)),
	}
	for _, wish := range []int{-1, 201, -200, 202, 1 << 32, 1<<32 + 1, math.MinInt, math.MaxInt} {
		first, last := zeros(n), zeros(n)
		first[0], last[n-1] = wish, wish
		lists = append(lists, [][]int{first}, [][]int{last}, append(roundsOf(19, ones(n)), last), append([][]int{first}, roundsOf(19, ones(n))...))
	}
	return lists
}

// roundsOf are so many rounds of the same wishes.
func roundsOf(n int, wanted []int) [][]int {
	var wishes [][]int
	for range n {
		wishes = append(wishes, slices.Clone(wanted))
	}
	return wishes
}

// plainTimed is what one writes down who looks at a ring with a timed token tick by tick.
type plainTimed struct {
	visits    [][]int // the tick, the station, and how many free frames it sends
	fixed     []int   // how many fixed frames it sends
	since     []int   // the ticks since the last visit
	rotations []int   // the same, but of no first visit of a station
}

// walkTimed begins with the round in which nothing was sent, so that the token comes to the station 0 at the
// tick 0.
func walkTimed(r impl.TimedRing, wishes [][]int) plainTimed {
	w := plainTimed{}
	n := len(r.Fixed)
	since := make([]int, n)
	station, away, come := 0, 0, 0 // the token has come so many times, those of the first round with it
	fixed, free := 0, 0            // the frames that are still to be sent at this visit
	for tick := -n * r.Walk; come < n+n*len(wishes) || fixed+free > 0; tick++ {
		if away == 0 && fixed+free == 0 {
			if come >= n {
				fixed, free = r.Fixed[station], leftOfTarget(r.Target, since[station], wishes[come/n-1][station])
				w.visits = append(w.visits, []int{tick, station, 0})
				w.fixed, w.since = append(w.fixed, 0), append(w.since, since[station])
			}
			if come >= 2*n {
				w.rotations = append(w.rotations, since[station])
			}
			come++
			since[station] = 0
			if fixed+free == 0 {
				away = r.Walk
			}
		}
		if fixed+free > 0 {
			if fixed > 0 {
				fixed--
				w.fixed[len(w.fixed)-1]++
			} else {
				free--
				w.visits[len(w.visits)-1][2]++
			}
			if fixed+free == 0 {
				away = 1 + r.Walk // it walks when this tick is over
			}
		}
		if away > 0 {
			away--
			if away == 0 {
				station = (station + 1) % n
			}
		}
		for s := range since {
			since[s]++
		}
	}
	return w
}

// leftOfTarget takes wishes one by one, as long as something is left of the target.
func leftOfTarget(target, since, wish int) int {
	free := 0
	for free < wish && since+free < target {
		free++
	}
	return free
}

// edgeServers have the least and the greatest numbers.
func edgeServers() []impl.Server {
	return []impl.Server{
		server(1, 0), server(1, 20), server(100, 0), server(100, 20), server(1, 1), server(2, 0), exampleServer, server(5, 1), server(99, 19), server(50, 10), server(10, 7),
	}
}

func notLatencies() []int {
	return []int{-1, 21, -2, -20, 22, 1000, 1 << 32, 1<<32 + 1, math.MinInt, math.MaxInt}
}

func notServers() []impl.Server {
	servers := []impl.Server{{}, server(-1, -1), server(101, 21), server(0, 20), server(math.MaxInt, math.MaxInt), server(math.MinInt, math.MinInt)}
	for _, rate := range notRates() {
		servers = append(servers, server(rate, 0), server(rate, 2), server(rate, 20))
	}
	for _, latency := range notLatencies() {
		servers = append(servers, server(1, latency), server(3, latency), server(100, latency))
	}
	return servers
}

// plainServed follows each part of what waits: ahead of the Latency none is let go, and at each tick from then
// on up to Rate.
func plainServed(v impl.Server, traffic []int) plainSent {
	tick := 0
	let := func() int {
		if tick < v.Latency {
			return 0
		}
		return v.Rate
	}
	return walkParts(traffic, let(), func(int) int {
		tick++
		return let()
	})
}

// everyServer calls see with all servers up to a rate and a latency.
func everyServer(rate, latency int, see func(v impl.Server)) {
	for r := 1; r <= rate; r++ {
		for l := range latency + 1 {
			see(server(r, l))
		}
	}
}

// timedRing is often one in which all that is fixed is just the Target, or nearly.
func (n *numbers) timedRing() impl.TimedRing {
	fixed := make([]int, 1+n.below(impl.MaxStations))
	walk := 1 + n.below(min(20, impl.MaxTarget/len(fixed)))
	if n.below(2) == 0 {
		walk = min(walk, 1+n.below(3))
	}
	walks := walk * len(fixed)
	target := walks + n.below(impl.MaxTarget-walks+1)
	spare := target - walks
	for range n.below(3) {
		for s := range fixed {
			more := n.below(spare/(1+n.below(2*len(fixed))) + 1)
			fixed[s] += more
			spare -= more
		}
	}
	return timedRing(target-[]int{0, spare, n.below(spare + 1)}[n.below(3)], walk, fixed...)
}

// wishes are those of many stations or of few.
func (n *numbers) wishes(stations int) [][]int {
	wishes := make([][]int, n.below(impl.MaxRounds+1))
	zero, limit := n.below(10), []int{3, 20, impl.MaxTarget + 1}[n.below(3)]
	for i := range wishes {
		wishes[i] = n.list(stations, limit)
		for s := range wishes[i] {
			if n.below(10) < zero {
				wishes[i][s] = 0
			}
			if n.below(8) == 0 {
				wishes[i][s] = impl.MaxTarget
			}
		}
	}
	return wishes
}

func (n *numbers) server() impl.Server {
	return server(1+n.below([]int{3, 20, impl.MaxRate}[n.below(3)]), n.below([]int{2, 6, 21}[n.below(3)]))
}

// bucketFor is a bucket whose rate is not greater than that of the server.
func (n *numbers) bucketFor(v impl.Server) impl.Bucket {
	b := n.bucket()
	b.Rate = 1 + n.below(v.Rate)
	if n.below(3) == 0 {
		b.Rate = v.Rate
	}
	return b
}

func textOfWishes(r impl.TimedRing, wishes [][]int) string {
	return fmt.Sprintf("%.200s, %.600s", fmt.Sprint(r), fmt.Sprint(wishes))
}

func textOfServer(v impl.Server, traffic []int) string {
	return fmt.Sprintf("%v, %.300s", v, fmt.Sprint(traffic))
}

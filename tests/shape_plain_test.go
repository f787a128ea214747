package tests

import (
	"fmt"
	"math"
	"slices"

	"loop.example/g01176/impl"
)

// shapeExample is the traffic of the document's example, for the bucket of the rate 2 and the depth 5.
var shapeExample = []int{4, 4, 0}

// mostShaped is how many ticks a shape has at most.
const mostShaped = 100

func bucket(rate, depth int) impl.Bucket {
	return impl.Bucket{Rate: rate, Depth: depth}
}

// edgeBuckets have the least and the greatest numbers, and rates that are less, greater and the same.
func edgeBuckets() []impl.Bucket {
	return []impl.Bucket{
		bucket(1, 1), bucket(1, 1000), bucket(100, 1), bucket(100, 1000), bucket(2, 5), bucket(1, 2), bucket(2, 1),
		bucket(3, 3), bucket(5, 4), bucket(99, 999), bucket(100, 99), bucket(100, 100), bucket(99, 100), bucket(50, 500), bucket(7, 30),
	}
}

func notRates() []int {
	return []int{0, 101, -1, -2, -100, 102, 1000, 1 << 32, 1<<32 + 1, math.MinInt, math.MaxInt}
}

func notDepths() []int {
	return []int{0, 1001, -1, -5, -1000, 1002, 1 << 32, 1<<32 + 1, math.MinInt, math.MaxInt}
}

func notBuckets() []impl.Bucket {
	buckets := []impl.Bucket{{}, bucket(-1, -1), bucket(101, 1001), bucket(1000, 100), bucket(math.MaxInt, math.MaxInt)}
	for _, rate := range notRates() {
		buckets = append(buckets, bucket(rate, 1), bucket(rate, 5), bucket(rate, 1000))
	}
	for _, depth := range notDepths() {
		buckets = append(buckets, bucket(1, depth), bucket(2, depth), bucket(100, depth))
	}
	return buckets
}

func alike(n, amount int) []int {
	return slices.Repeat([]int{amount}, n)
}

// edgeTraffic has the least and the greatest amounts and numbers of ticks, and amounts alone in many zeros.
func edgeTraffic() [][]int {
	lists := [][]int{
		nil, {}, {0}, zeros(2), zeros(40), {1}, {1000}, {0, 1000}, {1000, 0}, {0, 1000, 0}, alike(2, 1000), alike(40, 1000),
		ones(40), shapeExample, {5, 2, 2}, {5, 3}, {6}, {0, 0, 6, 0}, rising(40), falling(40), {1000, 1, 1, 1}, {3, 0, 0, 3, 1, 0, 0, 0, 9},
	}
	for _, tick := range []int{0, 1, 20, 38, 39} {
		for _, amount := range []int{1, 2, 61, 62, 100, 1000} {
			alone := zeros(40)
			alone[tick] = amount
			lists = append(lists, alone)
		}
	}
	return append(lists, multiplesOf(25, 1, 40), append(ones(39), 1000), append(alike(20, 2), zeros(20)...), append(zeros(20), alike(20, 3)...))
}

func notTraffic() [][]int {
	lists := [][]int{
		zeros(41), ones(41), alike(41, 1000), zeros(100), zeros(101), zeros(1000), {5, -5}, {4, 4, 0, -1}, {-1000, 1000}, {0, 1001, 0}, alike(40, -1), alike(40, 1001),
	}
	for _, amount := range []int{-1, 1001, -1000, 1002, 1 << 32, 1<<32 + 1, math.MinInt, math.MaxInt} {
		lists = append(lists, []int{amount}, []int{amount, 1}, []int{1000, amount}, append(zeros(39), amount))
	}
	return lists
}

// walkLevels tells the levels tick by tick, as long as no amount is greater.
func walkLevels(b impl.Bucket, traffic []int) (levels []int, keeps bool) {
	level := b.Depth
	for _, amount := range traffic {
		if amount > level {
			return nil, false
		}
		levels = append(levels, level)
		level = refilled(b, level-amount)
	}
	return levels, true
}

// refilled puts as many permits as the rate tells to a level, one by one, as long as there is room for them.
func refilled(b impl.Bucket, level int) int {
	for range b.Rate {
		if level < b.Depth {
			level++
		}
	}
	return level
}

func plainKeeps(b impl.Bucket, traffic []int) bool {
	_, keeps := walkLevels(b, traffic)
	return keeps
}

// plainBreaches are all s and t for which the sum of the amounts at s, .., t is too great.
func plainBreaches(b impl.Bucket, traffic []int) [][]int {
	var breaches [][]int
	for s := range traffic {
		for t := s; t < len(traffic); t++ {
			if sumOf(traffic[s:t+1]) > b.Depth+b.Rate*(t-s) {
				breaches = append(breaches, []int{s, t})
			}
		}
	}
	return breaches
}

// firstOfBreaches is that with the least t, and of these that with the greatest s.
func firstOfBreaches(breaches [][]int) []int {
	first := breaches[0]
	for _, c := range breaches {
		if c[1] < first[1] || c[1] == first[1] && c[0] > first[0] {
			first = c
		}
	}
	return first
}

// plainSent is what one writes down who follows each part of each amount.
type plainSent struct {
	sent    []int
	backlog int // the greatest number of parts that are left behind a tick
	delay   int // the greatest number of ticks that a part is there
}

// walkParts sends one part after the other, as long as there are permits; those behind a tick are told by the
// ones that are left at it.
func walkParts(traffic []int, permits int, behind func(left int) int) plainSent {
	w := plainSent{}
	var queue []int // the ticks at which the parts came
	for tick := 0; tick < len(traffic) || len(queue) > 0; tick++ {
		if tick < len(traffic) {
			queue = append(queue, alike(traffic[tick], tick)...)
		}
		sent := 0
		for permits > 0 && len(queue) > 0 {
			w.delay = max(w.delay, tick-queue[0])
			queue = queue[1:]
			permits--
			sent++
		}
		w.sent = append(w.sent, sent)
		w.backlog = max(w.backlog, len(queue))
		permits = behind(permits)
	}
	return w
}

func plainShape(b impl.Bucket, traffic []int) plainSent {
	return walkParts(traffic, b.Depth, func(left int) int { return refilled(b, left) })
}

func plainLeak(rate int, traffic []int) plainSent {
	return walkParts(traffic, rate, func(int) int { return rate })
}

// plainWindow is the greatest sum of the amounts of k ticks next to each other, of all stretches s..t.
func plainWindow(k int, traffic []int) int {
	greatest := 0
	for s := range traffic {
		for t := s; t < len(traffic); t++ {
			if t-s+1 == k {
				greatest = max(greatest, sumOf(traffic[s:t+1]))
			}
		}
	}
	return greatest
}

// everyTraffic calls see with all lists of n amounts up to the greatest.
func everyTraffic(n, greatest int, see func(traffic []int)) {
	traffic := zeros(n)
	var choose func(tick int)
	choose = func(tick int) {
		if tick == n {
			see(slices.Clone(traffic))
			return
		}
		for amount := range greatest + 1 {
			traffic[tick] = amount
			choose(tick + 1)
		}
	}
	choose(0)
}

// everyBucket calls see with all buckets up to a rate and a depth.
func everyBucket(rate, depth int, see func(b impl.Bucket)) {
	for r := 1; r <= rate; r++ {
		for d := 1; d <= depth; d++ {
			see(bucket(r, d))
		}
	}
}

func (n *numbers) bucket() impl.Bucket {
	return bucket(1+n.below([]int{3, 20, impl.MaxRate}[n.below(3)]), 1+n.below([]int{5, 60, impl.MaxAmount}[n.below(3)]))
}

// traffic has few or many ticks, small or great amounts, and few or many zeros.
func (n *numbers) traffic() []int {
	traffic := n.list(n.below(impl.MaxTicks+1), []int{4, 30, 200, impl.MaxAmount + 1}[n.below(4)])
	zero := n.below(10)
	for tick := range traffic {
		if n.below(10) < zero {
			traffic[tick] = 0
		}
	}
	return traffic
}

// keeping is traffic that keeps a bucket: often its amounts are all that the levels let.
func (n *numbers) keeping(b impl.Bucket, ticks int) []int {
	traffic := []int{}
	level := b.Depth
	for range ticks {
		amount := []int{0, level, level, n.below(level + 1)}[n.below(4)]
		traffic = append(traffic, amount)
		level = refilled(b, level-amount)
	}
	return traffic
}

func textOfTraffic(b impl.Bucket, traffic []int) string {
	return fmt.Sprintf("%v, %.300s", b, fmt.Sprint(traffic))
}

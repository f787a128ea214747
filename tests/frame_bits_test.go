package tests

import (
	"math"
	"slices"
	"strings"
	"testing"

	"loop.example/g01176/impl"
)

func ones(n int) []int { return slices.Repeat([]int{1}, n) }

func zeros(n int) []int { return slices.Repeat([]int{0}, n) }

func notBits() [][]int {
	return [][]int{
		{2},
		{-1},
		{0, 1, 2, 0, 0, 0, 0, 0},
		{1, 0, -1, 0, 1, 1, 1, 1},
		{0, 0, 0, 0, 0, 0, 0, 256},
		{math.MinInt},
		{math.MaxInt},
		zeros(401),
		zeros(408),
		ones(3000),
	}
}

func TestBitsOf(t *testing.T) {
	for _, c := range []struct {
		list []int
		bits string
	}{
		{nil, ""},
		{[]int{1}, "00000001"},
		{[]int{128}, "10000000"},
		{[]int{18, 97, 255}, "00010010 01100001 11111111"},
	} {
		got, ok := impl.BitsOf(c.list)
		wantInts(t, "BitsOf", got, ok, bitsIn(c.bits))
	}
	for _, list := range notBytes() {
		got, ok := impl.BitsOf(list)
		wantNoInts(t, "BitsOf", got, ok)
	}
}

func TestBytesComeBackFromBits(t *testing.T) {
	random := &numbers{3}
	for length := range 41 {
		list := random.list(length, 256)
		bits, ok := impl.BitsOf(list)
		if !ok || len(bits) != 8*length {
			t.Errorf("BitsOf %v: %v, %v", list, bits, ok)
		}
		back, ok := impl.FromBits(bits)
		wantInts(t, "FromBits", back, ok, list)
	}
	for b := range 256 {
		bits, _ := impl.BitsOf([]int{b})
		back, ok := impl.FromBits(bits)
		wantInts(t, "FromBits", back, ok, []int{b})
	}
}

func TestFromBits(t *testing.T) {
	got, ok := impl.FromBits(nil)
	wantInts(t, "FromBits", got, ok, nil)
	got, ok = impl.FromBits(ones(320))
	wantInts(t, "FromBits", got, ok, slices.Repeat([]int{255}, 40))
	for length := 1; length <= 400; length++ {
		got, ok := impl.FromBits(zeros(length))
		if length%8 == 0 && length <= 320 {
			wantInts(t, "FromBits", got, ok, zeros(length/8))
		} else { // more than 40 bytes are none either
			wantNoInts(t, "FromBits", got, ok)
		}
	}
	for _, bits := range notBits() {
		got, ok := impl.FromBits(bits)
		wantNoInts(t, "FromBits", got, ok)
	}
}

// slowStuff looks for each next five ones in a text of bits.
func slowStuff(s string) string {
	out := ""
	for {
		i := strings.Index(s, "11111")
		if i < 0 {
			return out + s
		}
		out += s[:i+5] + "0"
		s = s[i+5:]
	}
}

func TestStuffBits(t *testing.T) {
	for _, c := range []struct{ plain, stuffed string }{
		{"", ""},
		{"0", "0"},
		{"1", "1"},
		{"1111", "1111"},
		{"11111", "111110"},
		{"111111", "1111101"},
		{"111110", "1111100"},
		{"1111111111", "111110111110"},
		{"11111 11111 1", "111110 111110 1"},
		{"0 11111 0 11111", "0 111110 0 111110"},
		{"1111 0 1111 0 1", "1111 0 1111 0 1"},
	} {
		got, ok := impl.StuffBits(bitsIn(c.plain))
		wantInts(t, "StuffBits", got, ok, bitsIn(c.stuffed))
		got, ok = impl.UnstuffBits(bitsIn(c.stuffed))
		wantInts(t, "UnstuffBits", got, ok, bitsIn(c.plain))
	}
	for _, bits := range notBits() {
		got, ok := impl.StuffBits(bits)
		wantNoInts(t, "StuffBits", got, ok)
		got, ok = impl.UnstuffBits(bits)
		wantNoInts(t, "UnstuffBits", got, ok)
	}
}

func TestStuffedBitsUpToMaxBits(t *testing.T) {
	for _, c := range []struct {
		plain   []int
		stuffed int
	}{
		{zeros(400), 400},
		{ones(332), 398},
		{ones(333), 399},
		{ones(334), 400},
		{append(ones(330), 0, 0, 0, 0), 400},
		{append(ones(5), zeros(394)...), 400},
		{append(zeros(394), ones(5)...), 400},
		{append(zeros(396), ones(4)...), 400},
	} {
		got, ok := impl.StuffBits(c.plain)
		if !ok || len(got) != c.stuffed {
			t.Errorf("StuffBits of %d bits: %d, %v, want %d", len(c.plain), len(got), ok, c.stuffed)
		}
		back, ok := impl.UnstuffBits(got)
		wantInts(t, "UnstuffBits", back, ok, c.plain)
	}
	for _, plain := range [][]int{
		ones(335), // 67 put zeros behind 335 ones
		ones(400),
		append(ones(334), 1, 0),
		append(ones(334), 0),
		append(ones(5), zeros(395)...),
		append(zeros(395), ones(5)...),
	} {
		got, ok := impl.StuffBits(plain)
		wantNoInts(t, "StuffBits", got, ok)
	}
}

// The stuffed bits of all bits that are short, and of no others, are unstuffed.
func TestStuffedBitsComeBack(t *testing.T) {
	const longest = 13
	plainOf := map[string]string{}
	for n := range longest + 1 {
		everyBits(n, func(bits []int) {
			want := slowStuff(textOfBits(bits))
			got, ok := impl.StuffBits(bits)
			wantInts(t, "StuffBits", got, ok, bitsIn(want))
			plainOf[want] = textOfBits(bits)
		})
	}
	for n := range longest + 1 {
		everyBits(n, func(bits []int) {
			got, ok := impl.UnstuffBits(bits)
			if plain, is := plainOf[textOfBits(bits)]; is {
				wantInts(t, "UnstuffBits", got, ok, bitsIn(plain))
			} else {
				wantNoInts(t, "UnstuffBits", got, ok)
			}
		})
	}
}

func TestFlipBits(t *testing.T) {
	for _, c := range []struct{ list, places, want []int }{
		{nil, nil, nil},
		{[]int{7}, nil, []int{7}},
		{[]int{0}, []int{0}, []int{128}},
		{[]int{0}, []int{7}, []int{1}},
		{[]int{255, 255}, []int{0, 8, 15}, []int{127, 126}},
		{[]int{170}, []int{0, 1, 2, 3, 4, 5, 6, 7}, []int{85}},
		{zeros(40), []int{319}, append(zeros(39), 1)},
	} {
		got, ok := impl.FlipBits(c.list, c.places)
		wantInts(t, "FlipBits", got, ok, c.want)
		back, ok := impl.FlipBits(got, c.places)
		wantInts(t, "FlipBits twice", back, ok, c.list)
	}
	for _, c := range []struct{ list, places []int }{
		{nil, []int{0}},
		{[]int{0}, []int{8}},
		{[]int{0}, []int{-1}},
		{[]int{0}, []int{3, 3}},
		{[]int{0}, []int{4, 3}},
		{[]int{0}, []int{0, 8}},
		{[]int{0}, []int{-1, 0}},
		{[]int{0}, []int{math.MinInt}},
		{[]int{0}, []int{math.MaxInt}},
		{[]int{0}, []int{math.MaxInt, 0}},
		{[]int{0}, zeros(100000)},
		{zeros(40), []int{320}},
	} {
		got, ok := impl.FlipBits(c.list, c.places)
		wantNoInts(t, "FlipBits", got, ok)
	}
	for _, list := range notBytes() {
		got, ok := impl.FlipBits(list, nil)
		wantNoInts(t, "FlipBits", got, ok)
	}
}

func TestDistanceOf(t *testing.T) {
	for _, c := range []struct {
		a, b []int
		want int
	}{
		{nil, nil, 0},
		{[]int{5}, []int{5}, 0},
		{[]int{0}, []int{255}, 8},
		{[]int{128, 1}, []int{0, 0}, 2},
		{[]int{170, 3}, []int{85, 1}, 9},
		{zeros(40), slices.Repeat([]int{255}, 40), 320},
	} {
		got, ok := impl.DistanceOf(c.a, c.b)
		wantInt(t, "DistanceOf", got, ok, c.want)
		got, ok = impl.DistanceOf(c.b, c.a)
		wantInt(t, "DistanceOf", got, ok, c.want)
	}
	for _, c := range [][2][]int{{nil, {0}}, {{0}, nil}, {{0, 0}, {0}}, {{1}, {1, 2}}} {
		got, ok := impl.DistanceOf(c[0], c[1])
		wantNoInt(t, "DistanceOf", got, ok)
	}
	for _, list := range notBytes() {
		got, ok := impl.DistanceOf(list, list)
		wantNoInt(t, "DistanceOf", got, ok)
		got, ok = impl.DistanceOf(list, zeros(len(list)))
		wantNoInt(t, "DistanceOf", got, ok)
		got, ok = impl.DistanceOf(zeros(len(list)), list)
		wantNoInt(t, "DistanceOf", got, ok)
	}
}

func TestDistanceIsTheNumberOfFlips(t *testing.T) {
	random := &numbers{4}
	for range 300 {
		list := random.list(1+random.below(40), 256)
		var places []int
		for p := range 8 * len(list) {
			if random.below(5) == 0 {
				places = append(places, p)
			}
		}
		flipped, ok := impl.FlipBits(list, places)
		if !ok {
			t.Fatalf("FlipBits of %v at %v fails", list, places)
		}
		got, ok := impl.DistanceOf(list, flipped)
		wantInt(t, "DistanceOf", got, ok, len(places))
	}
}

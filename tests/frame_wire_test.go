package tests

import (
	"slices"
	"strings"
	"testing"

	"loop.example/g01176/impl"
)

const flag = "01111110"

// wireText returns a frame on the wire as a text.
func wireText(t *testing.T, f impl.Frame) string {
	t.Helper()
	wire, ok := impl.WireOf(f)
	if !ok {
		t.Fatalf("WireOf %v fails", f)
	}
	return textOfBits(wire)
}

// innerText returns what is between the flags of a frame on the wire.
func innerText(t *testing.T, f impl.Frame) string {
	t.Helper()
	text := wireText(t, f)
	return text[len(flag) : len(text)-len(flag)]
}

func TestWireOf(t *testing.T) {
	for _, c := range []struct {
		frame impl.Frame
		inner string
	}{
		{exampleFrame, "00010010 0110000 11111 0 1111 01100111"},
		{impl.Frame{}, "00000000 00000000 00000000"},
		{impl.Frame{From: 1, To: 2, Priority: 3}, "00010010 01100000 01011010"},
		{impl.Frame{From: 1, To: 7, Priority: 6, Data: []int{0}}, "00010111 11 0 000001 00000000 01001100"},
	} {
		got, ok := impl.WireOf(c.frame)
		wantInts(t, "WireOf", got, ok, bitsIn(flag+c.inner+flag))
	}
	for _, f := range notFrames() {
		got, ok := impl.WireOf(f)
		wantNoInts(t, "WireOf", got, ok)
	}
}

func TestWireOfIsStuffedBytesBetweenFlags(t *testing.T) {
	frames := edgeFrames()
	random := &numbers{5}
	for range 500 {
		frames = append(frames, random.frame())
	}
	for _, f := range frames {
		list, _ := impl.BytesOf(f)
		bits, _ := impl.BitsOf(list)
		want := flag + slowStuff(textOfBits(bits)) + flag
		got, ok := impl.WireOf(f)
		wantInts(t, "WireOf", got, ok, bitsIn(want))
		wantFrames(t, "FramesOnWire", got, f)
	}
}

func TestWiresWithoutFrames(t *testing.T) {
	inner := innerText(t, exampleFrame)
	for _, wire := range []string{
		"",
		"0",
		"1111111",
		flag,
		flag + flag,
		flag + flag + flag,
		"01111110 1111110",         // two flags that share a bit
		"01111110 1111110 1111110", // and three
		"0111111",
		flag + "0" + flag,
		flag + "1" + flag,
		strings.Repeat("1", 400),
		strings.Repeat("0", 400),
		strings.Repeat(flag, 50),
		inner,
		flag + inner,
		inner + flag,
		flag + inner + "0111111",
		"1111110" + inner + flag,
		flag + "0" + inner + flag,
		flag + inner + "0" + flag,
		flag + inner + "00000000" + flag,
		flag + inner[8:] + flag,
		flag + inner + inner + flag,
		// The bits of its bytes as they are, not stuffed.
		flag + "00010010 01100001 11111111 01100111" + flag,
		// Another bit behind five ones.
		flag + "00010010 0110000 11111 1 1111 01100111" + flag,
		// Another check, and another number of data.
		flag + "00010010 0110000 11111 0 1111 01100110" + flag,
		flag + slowStuff("0001001001100010"+bitsOfCheck(18, 98)) + flag,
	} {
		wantFrames(t, wire, bitsIn(wire))
	}
}

func bitsOfCheck(list ...int) string {
	text := ""
	for check, weight := slowCheck(list), 128; weight > 0; weight /= 2 {
		text += string(rune('0' + check/weight%2))
	}
	return text
}

func TestFramesOnWireInOrder(t *testing.T) {
	a, b, c := exampleFrame, impl.Frame{From: 11, To: 11, Priority: 7}, impl.Frame{Data: []int{255, 255, 126}}
	inA, inB, inC := innerText(t, a), innerText(t, b), innerText(t, c)
	const shared = "011111101111110"
	noise := "1101"
	for _, w := range []struct {
		wire string
		want []impl.Frame
	}{
		{flag + inA + flag, []impl.Frame{a}},
		{flag + inA + flag + flag + inB + flag, []impl.Frame{a, b}},
		{flag + inB + flag + inA + flag, []impl.Frame{b, a}},
		{flag + inA + flag + inA + flag + inA + flag, []impl.Frame{a, a, a}},
		{flag + inA + shared + inB + flag, []impl.Frame{a, b}},
		{shared + inC + shared, []impl.Frame{c}},
		{flag + flag + flag + inC + flag + flag, []impl.Frame{c}},
		{noise + flag + inA + flag + noise, []impl.Frame{a}},
		{"1" + flag + inA + flag + "1", []impl.Frame{a}},
		{"0" + flag + inA + flag + "0", []impl.Frame{a}},
		{flag + inA + flag + noise + flag + inB + flag, []impl.Frame{a, b}},
		{flag + noise + flag + inA + flag + "1111111" + flag + inC + flag, []impl.Frame{a, c}},
		{inB + flag + inA + flag + inB, []impl.Frame{a}},
		{flag + inA + flag + inB + "1" + flag + inC + flag, []impl.Frame{a, c}},
		{flag + inA + flag + inB, []impl.Frame{a}},
		{"111111" + flag + inA + flag + "111111", []impl.Frame{a}},
	} {
		wantFrames(t, w.wire, bitsIn(w.wire), w.want...)
	}
}

func TestFramesOnWireUpToMaxBits(t *testing.T) {
	wire := bitsIn(wireText(t, exampleFrame))
	ahead := append(zeros(400-len(wire)), wire...)
	wantFrames(t, "400 bits, the frame last", ahead, exampleFrame)
	behind := append(slices.Clone(wire), zeros(400-len(wire))...)
	wantFrames(t, "400 bits, the frame first", behind, exampleFrame)

	// Twelve frames, with one flag between each two, are 392 bits.
	short := impl.Frame{From: 1, To: 2, Priority: 3}
	many := bitsIn(flag + strings.Repeat(innerText(t, short)+flag, 12))
	wantFrames(t, "twelve frames", many, slices.Repeat([]impl.Frame{short}, 12)...)

	for _, bits := range append(notBits(), append(ahead, 0), append([]int{2}, wire...), append(slices.Clone(wire), -1)) {
		got, ok := impl.FramesOnWire(bits)
		if ok || len(got) != 0 {
			t.Errorf("FramesOnWire: %v, %v, want a failure", got, ok)
		}
	}
}

// slowFrames finds the frames of a wire by searching its text.
func slowFrames(wire string) []impl.Frame {
	var frames []impl.Frame
	last := -1
	for at := range wire {
		if !strings.HasPrefix(wire[at:], flag) {
			continue
		}
		if last >= 0 && at > last+len(flag) {
			if f, ok := slowFrame(wire[last+len(flag) : at]); ok {
				frames = append(frames, f)
			}
		}
		last = at
	}
	return frames
}

func slowFrame(inner string) (impl.Frame, bool) {
	plain := strings.ReplaceAll(inner, "111110", "11111")
	if slowStuff(plain) != inner || len(plain)%8 != 0 {
		return impl.Frame{}, false
	}
	var list []int
	for i := 0; i < len(plain); i += 8 {
		b := 0
		for _, r := range plain[i : i+8] {
			b = b*2 + int(r-'0')
		}
		list = append(list, b)
	}
	if len(list) < 3 || slowCheck(list[:len(list)-1]) != list[len(list)-1] {
		return impl.Frame{}, false
	}
	f := impl.Frame{From: list[0] >> 4, To: list[0] & 15, Priority: list[1] >> 5, Data: list[2 : len(list)-1]}
	return f, f.From < 12 && f.To < 12 && len(f.Data) <= 16 && len(f.Data) == list[1]&31
}

// Wires of frames, flags and noise, some of them damaged.
func TestFramesOnAnyWire(t *testing.T) {
	random := &numbers{6}
	found := 0
	for range 3000 {
		wire := ""
		for len(wire) < 300 {
			switch random.below(4) {
			case 0:
				wire += flag
			case 1:
				wire += textOfBits(random.list(random.below(9), 2))
			default:
				wire += flag + innerText(t, impl.Frame{From: random.below(12), Data: random.list(random.below(4), 256)})
			}
		}
		bits := bitsIn(wire)[:300+random.below(100)%(len(wire)-299)]
		for range random.below(3) {
			bits[random.below(len(bits))] ^= 1
		}
		want := slowFrames(textOfBits(bits))
		found += len(want)
		wantFrames(t, wire, bits, want...)
	}
	if found < 3000 {
		t.Errorf("only %d frames on 3000 wires", found)
	}
}

package tests

import (
	"slices"
	"strings"
	"testing"

	"loop.example/g01176/impl"
)

func TestFrameText(t *testing.T) {
	for _, c := range []struct {
		frame impl.Frame
		text  string
	}{
		{exampleFrame, "1>2:3:ff"},
		{impl.Frame{}, "0>0:0:"},
		{impl.Frame{From: 11, To: 10, Priority: 7}, "11>10:7:"},
		{impl.Frame{Data: []int{0, 9, 10, 15, 16, 159, 160, 171}}, "0>0:0:00090a0f109fa0ab"},
		{impl.Frame{Data: slices.Repeat([]int{205}, 16)}, "0>0:0:" + strings.Repeat("cd", 16)},
	} {
		got, ok := impl.FrameText(c.frame)
		if !ok || got != c.text {
			t.Errorf("FrameText %v: %q, %v, want %q", c.frame, got, ok, c.text)
		}
		back, ok := impl.ParseFrame(c.text)
		wantFrame(t, c.text, back, ok, c.frame)
	}
	for _, f := range notFrames() {
		if got, ok := impl.FrameText(f); ok || got != "" {
			t.Errorf("FrameText %v: %q, %v, want a failure", f, got, ok)
		}
	}
}

func TestFramesComeBackFromTexts(t *testing.T) {
	frames := edgeFrames()
	random := &numbers{7}
	for range 500 {
		frames = append(frames, random.frame())
	}
	for from := range 12 {
		for to := range 12 {
			frames = append(frames, impl.Frame{From: from, To: to, Priority: to % 8})
		}
	}
	for b := range 256 {
		frames = append(frames, impl.Frame{Data: []int{b}})
	}
	for _, f := range frames {
		text, ok := impl.FrameText(f)
		if !ok {
			t.Errorf("FrameText %v fails", f)
		}
		back, ok := impl.ParseFrame(text)
		wantFrame(t, text, back, ok, f)
	}
}

func notFrameTexts() []string {
	return []string{
		"", ">", ":", ">::", "1", "1>2", "1>2:3", "1>2:3ff", "1:2:3:ff", "1>2>3:ff", ">2:3:ff", "1>:3:ff", "1>2::ff",
		"1>2:3:f", "1>2:3:fff", "1>2:3:FF", "1>2:3:fF", "1>2:3:fg", "1>2:3:gf", "1>2:3:/0", "1>2:3:0`", "1>2:3:: ",
		"01>2:3:ff", "1>02:3:ff", "1>2:03:ff", "00>2:3:ff", "+1>2:3:ff", "1>+2:3:ff", "1>2:+3:ff", "-0>2:3:ff",
		"-1>2:3:ff", "12>2:3:ff", "1>12:3:ff", "1>2:8:ff", "1>2:-1:ff", "16>2:3:ff", "1>2:32:ff",
		" 1>2:3:ff", "1>2:3:ff ", "1 >2:3:ff", "1> 2:3:ff", "1>2:3: ff", "1>2:3:ff\n", "1>2:3:ff\x00", "1>2:3:f f",
		"1>2:3:ff:", "1>2:3:ff:00", "1>2:3:,ff", "0x1>2:3:ff", "1>2:3:0xff", "1_1>2:3:ff", "1.0>2:3:ff", "a>2:3:ff",
		"18446744073709551617>2:3:ff", "1>9223372036854775808:3:ff", "１>2:3:ff", "1>2:3:ﬀ", "\xff>2:3:ff", "1>2:3:\xff\xff",
		"1>2:3:" + strings.Repeat("00", 17), "1>2:3:" + strings.Repeat("0", 33), "1>2:3:" + strings.Repeat("0", 1<<20),
		strings.Repeat("0", 1<<20) + ">2:3:ff", strings.Repeat(">", 1<<20), strings.Repeat(":", 1<<20),
	}
}

func TestParseFrameFails(t *testing.T) {
	for _, s := range notFrameTexts() {
		got, ok := impl.ParseFrame(s)
		wantNoFrame(t, s[:min(len(s), 40)], got, ok)
	}
}

// Texts that differ in one byte from a FrameText are parsed just if they are one again.
func TestParseFrameTakesOnlyFrameTexts(t *testing.T) {
	for _, text := range []string{"1>2:3:ff", "11>0:7:", "0>10:0:09af"} {
		for i := range len(text) + 1 {
			for b := range 256 {
				checkIsTextOf(t, text[:i]+string([]byte{byte(b)})+text[i:])
				if i < len(text) {
					checkIsTextOf(t, text[:i]+string([]byte{byte(b)})+text[i+1:])
					checkIsTextOf(t, text[:i]+text[i+1:])
				}
			}
		}
	}
}

func checkIsTextOf(t *testing.T, s string) {
	t.Helper()
	f, ok := impl.ParseFrame(s)
	if want := isFrameText(s); ok != want {
		t.Errorf("ParseFrame %q: %v, %v", s, f, ok)
	}
	if back, is := impl.FrameText(f); ok && (!is || back != s) {
		t.Errorf("ParseFrame %q: %v, which has the text %q", s, f, back)
	}
}

func isFrameText(s string) bool {
	from, rest, _ := strings.Cut(s, ">")
	parts := strings.Split(rest, ":")
	const stations = " 0 1 2 3 4 5 6 7 8 9 10 11 "
	if len(parts) != 3 || !isWordOf(stations, from) || !isWordOf(stations, parts[0]) || !isWordOf(" 0 1 2 3 4 5 6 7 ", parts[1]) {
		return false
	}
	return len(parts[2])%2 == 0 && len(parts[2]) <= 32 && strings.Trim(parts[2], "0123456789abcdef") == ""
}

func isWordOf(words, word string) bool {
	return word != "" && !strings.Contains(word, " ") && strings.Contains(words, " "+word+" ")
}

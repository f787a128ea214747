package tests

import (
	"strings"
	"testing"

	"loop.example/g01176/impl"
)

func TestRingText(t *testing.T) {
	for text, r := range map[string]impl.Ring{
		"5:1,3":                        exampleRing,
		"2:":                           ring(2),
		"2:0":                          ring(2, 0),
		"2:1":                          ring(2, 1),
		"2:0,1":                        ring(2, 0, 1),
		"12:":                          ring(12),
		"12:11":                        ring(12, 11),
		"10:0,9":                       ring(10, 0, 9),
		"12:0,1,2,3,4,5,6,7,8,9,10,11": ring(12, 0, 1, 2, 3, 4, 5, 6, 7, 8, 9, 10, 11),
	} {
		got, ok := impl.RingText(r)
		if !ok || got != text {
			t.Errorf("RingText %v: %q, %v, want %q", r, got, ok, text)
		}
		back, ok := impl.ParseRing(text)
		wantRing(t, "ParseRing "+text, back, ok, r)
	}
	for _, r := range notRings() {
		if got, ok := impl.RingText(r); ok || got != "" {
			t.Errorf("RingText %v: %q, %v, want a failure", r.Stations, got, ok)
		}
	}
}

// ringTexts are the texts of all rings, with the rings.
func ringTexts(t *testing.T) map[string]impl.Ring {
	t.Helper()
	texts := map[string]impl.Ring{}
	everyRingUpTo(impl.MaxStations, func(r impl.Ring) {
		text, ok := impl.RingText(r)
		if other, found := texts[text]; found || !ok {
			t.Errorf("RingText %v: %q, %v, which is that of %v", r, text, ok, other)
		}
		texts[text] = r
	})
	return texts
}

func TestRingsComeBackFromTexts(t *testing.T) {
	for text, r := range ringTexts(t) {
		back, ok := impl.ParseRing(text)
		wantRing(t, "ParseRing "+text, back, ok, r)
	}
}

func notRingTexts() []string {
	return []string{
		"", ":", ",", "5", "5,1", "51,3", ":1,3", "5:1,3,", "5:,1,3", "5:,", "5:1,,3", "5::", "5::1", "5:1:3", "5:1;3", "5;1,3", "5:1 3", "5:1.3",
		"05:1,3", "5:01,3", "5:1,03", "5:00", "002:", "012:", "12:010", "12:011",
		"+5:1,3", "5:+1,3", "5:1,+3", "-5:1,3", "5:-1,3", "5:-0", "5:+0", "-2:", "-0:", "5:1,-3",
		" 5:1,3", "5:1,3 ", "5 :1,3", "5: 1,3", "5:1 ,3", "5:1, 3", "5: ", "2: ", " 2:", "5:1,3\n", "\n5:1,3", "5:1,3\x00", "5:\t1,3",
		"5:3,1", "5:1,1", "5:1,3,3", "5:1,3,2", "5:0,0", "12:11,10", "12:2,10,9",
		"5:5", "5:1,5", "5:12", "2:2", "2:0,1,2", "12:12", "0:", "1:", "1:0", "13:", "13:12", "20:", "100:1",
		"a:1,3", "5:a", "5:1,b", "0x5:1,3", "5:0x1", "5:1e0", "1_0:", "5:1_0", "5.0:", "five:", "5:-",
		"18446744073709551621:", "9223372036854775808:", "5:18446744073709551617", "5:1,9223372036854775808",
		"５:1,3", "5:１,3", "5：1,3", "5:1，3", "\xff:", "5:\xff", "(5:1,3)", "\"5:1,3\"", "5:[1,3]", "{5 [1 3]}",
		strings.Repeat("0", 1<<16) + "5:1,3", "5:" + strings.Repeat("0", 1<<16) + "1", "5:" + strings.Repeat("1,", 1<<16) + "1",
		strings.Repeat(":", 1<<16), "5:" + strings.Repeat(",", 1<<16), strings.Repeat("5", 1<<16),
	}
}

func TestParseRingFails(t *testing.T) {
	for _, s := range notRingTexts() {
		got, ok := impl.ParseRing(s)
		wantNoRing(t, "ParseRing "+s[:min(len(s), 40)], got, ok)
	}
}

// All short texts, and all that differ in one byte from a RingText, are parsed just if they are one.
func TestParseRingTakesOnlyRingTexts(t *testing.T) {
	texts := ringTexts(t)
	check := func(s string) {
		got, ok := impl.ParseRing(s)
		if want, is := texts[s]; ok != is || !sameRing(got, want) {
			t.Errorf("ParseRing %q: %v, %v", s, got, ok)
		}
	}
	const letters = "0123:,+- "
	var extend func(s string, more int)
	extend = func(s string, more int) {
		check(s)
		for i := 0; more > 0 && i < len(letters); i++ {
			extend(s+letters[i:i+1], more-1)
		}
	}
	extend("", 5)
	for _, text := range []string{"5:1,3", "2:", "12:0,10,11", "10:9"} {
		for i := range len(text) + 1 {
			for b := range 256 {
				check(text[:i] + string([]byte{byte(b)}) + text[i:])
				if i < len(text) {
					check(text[:i] + string([]byte{byte(b)}) + text[i+1:])
					check(text[:i] + text[i+1:])
				}
			}
		}
	}
}

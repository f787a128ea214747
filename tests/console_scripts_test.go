package tests

import (
	"slices"
	"strings"
	"testing"

	"loop.example/g01176/impl"
)

const exampleScript = "pieces\nwrap 0\nmend 1\nway 4 2\ncarry\ncheck 1\nmessages 3,1,2\nfly\n"

func TestScriptExample(t *testing.T) {
	wantScript(t, exampleScript, deskWith(t, "5:3", "1>2:3:ff"), []int{8}, "4,0,1 2,3", "0,1,0,4", "5:3", "4,0,1,2", "1,2", "7", "5", "what")
}

func TestScripts(t *testing.T) {
	first := exampleDesk
	wantScript(t, "", first, nil)
	wantScript(t, "\n", first, []int{1}, "what")
	wantScript(t, "show\n", first, nil, "5:1,3")
	wantScript(t, "text\n", first, nil, "1>2:3:ff")
	wantScript(t, "fly\n", first, []int{1}, "what")
	wantScript(t, "carry\n", first, []int{1}, "no")
	wantScript(t, "show\n\nshow\n", first, []int{2}, "5:1,3", "what", "5:1,3")
	wantScript(t, "\nshow\n", first, []int{1}, "what", "5:1,3")
	wantScript(t, "show\n\n", first, []int{2}, "5:1,3", "what")
	wantScript(t, "show\r\n", first, []int{1}, "what")
	wantScript(t, " \nshow\n", first, []int{1}, "what", "5:1,3")
	wantScript(t, "talk\nhops 0 1\nshow\n", first, nil, "not", "1", "5:1,3")
	wantScript(t, "break 1\nbreak x\nbreak 0\nmend 2\nmend 01\nmend 0\n", first, []int{1, 2, 4, 5}, "no", "what", "5:0,1,3", "no", "what", "5:1,3")
	wantScript(t, "put 1,2\nfly\nput 256\nput \ntext\n", deskWith(t, "5:1,3", "1>2:3:0102"), []int{2, 3, 4},
		"1>2:3:0102", "what", "no", "what", "1>2:3:0102")
	wantScript(t, "frame 0>1:0:\nlong\nring 2:\ncarry\nleave 0\nring 3:1\nleave 0\nmirror\nshow\n", deskWith(t, "2:0", "0>1:0:"), []int{5},
		"0>1:0:", "40", "2:", "0,1", "no", "3:1", "2:0", "2:0", "2:0")
	wantScript(t, "ring 12:\nframe 11>10:7:\nleave 0\ncarry\nput 5\ntext\n", deskWith(t, "11:", "11>10:7:05"), []int{4},
		"12:", "11>10:7:", "11:", "no", "11>10:7:05", "11>10:7:05")
}

// A failed line leaves what the lines before it did, and those behind it go on from there.
func TestScriptsGoOnBehindFailedLines(t *testing.T) {
	for _, bad := range []string{"fly", "", "mend 2", "break 9", "put 256", "ring 1:", "frame 1>2", "leave 5", "carry", "way 1 2 3"} {
		s := "mend 1\n" + bad + "\nput 7\n" + bad + "\nmend 3\nshow\ntext\n"
		if bad == "carry" {
			s = strings.Replace(s, "mend 1", "frame 1>2:3:", 1)
		}
		checkScript(t, s)
		if lines, ok := impl.FailedLines(s); !ok || len(lines) < 2 || lines[0] != 2 {
			t.Errorf("FailedLines %q: %v, %v", s, lines, ok)
		}
	}
}

func TestTextsThatAreNoScripts(t *testing.T) {
	for _, s := range []string{"show", " ", "x", "show\ntext", "\nshow", "\n ", "\n\nx", "show\r", "show\n\r", "show\n\x00", strings.Repeat("x", 3000)} {
		wantNoScript(t, s)
	}
	for _, line := range goodLines() {
		wantNoScript(t, line)
		wantNoScript(t, exampleScript+line)
	}
}

func TestScriptsOfMostLines(t *testing.T) {
	wantScript(t, strings.Repeat("\n", 50), exampleDesk, rising(51)[1:], slices.Repeat([]string{"what"}, 50)...)
	wantNoScript(t, strings.Repeat("\n", 51))
	wantNoScript(t, strings.Repeat("\n", 3000))
	wantScript(t, strings.Repeat("show\n", 50), exampleDesk, nil, slices.Repeat([]string{"5:1,3"}, 50)...)
	wantNoScript(t, strings.Repeat("show\n", 51))
	wantNoScript(t, strings.Repeat("show\n", 50)+"show")
	wantNoScript(t, strings.Repeat("show\n", 50)+"\n")
	wantScript(t, strings.Repeat("mirror\nfly\n", 25), deskWith(t, "5:0,2", "1>2:3:ff"), multiplesOf(2, 1, 25),
		slices.Repeat([]string{"5:0,2", "what", "5:1,3", "what"}, 13)[:50]...)
	for n := range 53 {
		checkScript(t, strings.Repeat("\n", n))
		checkScript(t, strings.Repeat("mirror\n", n))
		checkScript(t, strings.Repeat("text\n", n)+"show")
	}
}

func TestLongestScripts(t *testing.T) {
	for _, tail := range []string{"", "show\n", "mirror\nshow\n", "\n", "\n\n\n"} {
		filling := strings.Repeat("x", 3000-len(tail)-1)
		checkScript(t, filling+"\n"+tail)
		checkScript(t, filling[1:]+"\n"+tail)
		if replies, ok := impl.RunScript(filling + "\n" + tail); !ok || replies[0] != "what" {
			t.Errorf("RunScript of 3000 bytes, %q at the end: %q, %v", tail, replies, ok)
		}
		wantNoScript(t, filling+"x\n"+tail)
		wantNoScript(t, tail+filling+"x\n")
	}
	wantScript(t, "mend 3\n"+"put "+strings.Repeat("1,", 1493)+"12\n", deskWith(t, "5:1", "1>2:3:ff"), []int{2}, "5:1", "no")
	wantNoScript(t, "mend 3\n"+"put "+strings.Repeat("1,", 1493)+"123\n")
	frames := strings.Repeat("frame 11>10:7:"+strings.Repeat("5a", 16)+"\n", 50)
	checkScript(t, frames)
	checkScript(t, frames[:len(frames)-1]+strings.Repeat(" ", 3000-len(frames))+"\n")
	wantNoScript(t, frames[:len(frames)-1]+strings.Repeat(" ", 3001-len(frames))+"\n")
	wantNoScript(t, strings.Repeat("x", 1<<20))
	wantNoScript(t, strings.Repeat("\n", 1<<20))
}

// Scripts of random lines are compared with DeskLine line by line, from the first desk on.
func TestRandomScripts(t *testing.T) {
	random := &numbers{283}
	words := wordsOfLines()
	for range 400 {
		var s strings.Builder
		for range random.below(52) {
			s.WriteString(random.line(words) + "\n")
		}
		checkScript(t, s.String())
		if s.Len() > 0 && random.below(5) == 0 {
			checkScript(t, s.String()[:s.Len()-1])
		}
	}
}

// Short texts of all kinds are compared, scripts and others.
func TestShortScripts(t *testing.T) {
	parts := []string{"\n", " ", "show", "mirror", "break 0", "carry", "\r", "1"}
	var extend func(s string, more int)
	extend = func(s string, more int) {
		checkScript(t, s)
		for i := 0; more > 0 && i < len(parts); i++ {
			extend(s+parts[i], more-1)
		}
	}
	extend("", 5)
}

package tests

import (
	"fmt"
	"maps"
	"slices"
	"strings"
	"testing"

	"loop.example/g01176/impl"
)

func TestConsoleLimits(t *testing.T) {
	if impl.MaxScript != 3000 || impl.MaxLines != 50 {
		t.Error("the limits are not the document's")
	}
}

func TestFirstDesk(t *testing.T) {
	if d := impl.FirstDesk(); !sameDesk(d, exampleDesk) || !impl.IsDesk(d) {
		t.Errorf("FirstDesk: %v", d)
	}
	first := impl.FirstDesk()
	first.Ring.Broken[0], first.Frame.Data[0] = 0, 0
	if d := impl.FirstDesk(); !sameDesk(d, exampleDesk) {
		t.Errorf("FirstDesk behind a change of the one before: %v", d)
	}
}

func TestIsDesk(t *testing.T) {
	for _, d := range edgeDesks() {
		if !impl.IsDesk(d) {
			t.Errorf("%v is no desk", d)
		}
	}
	for _, d := range notDesks() {
		if impl.IsDesk(d) {
			t.Errorf("%.200s is a desk", fmt.Sprint(d))
		}
	}
}

func TestDeskLineNeedsADesk(t *testing.T) {
	for _, d := range notDesks() {
		for _, line := range []string{"show", "text", "mirror", "ring 2:", "frame 0>0:0:", "check 1", "talk", "fly", ""} {
			wantNoLine(t, d, line)
		}
	}
}

// The replies of the document's example, of which mend changes the ring.
func TestDeskLineExample(t *testing.T) {
	mended := deskWith(t, "5:3", "1>2:3:ff")
	wantReply(t, exampleDesk, "pieces", "4,0,1 2,3")
	wantReply(t, exampleDesk, "wrap 0", "0,1,0,4")
	wantLine(t, exampleDesk, "mend 1", mended, "5:3")
	wantReply(t, mended, "way 4 2", "4,0,1,2")
	wantReply(t, mended, "carry", "1,2")
	wantReply(t, mended, "check 1", "7")
	wantReply(t, mended, "messages 3,1,2", "5")
	wantReply(t, mended, "fly", "what")
}

func TestLinesThatChangeTheRing(t *testing.T) {
	for _, c := range []struct{ ring, line, behind string }{
		{"5:1,3", "ring 5:1,3", "5:1,3"},
		{"5:1,3", "ring 2:", "2:"},
		{"2:0", "ring 12:0,1,2,3,4,5,6,7,8,9,10,11", "12:0,1,2,3,4,5,6,7,8,9,10,11"},
		{"5:1,3", "break 0", "5:0,1,3"},
		{"5:1,3", "break 4", "5:1,3,4"},
		{"12:", "break 11", "12:11"},
		{"5:1,3", "mend 1", "5:3"},
		{"5:1,3", "mend 3", "5:1"},
		{"2:1", "mend 1", "2:"},
		{"5:1,3", "leave 0", "4:0,2"},
		{"5:1,3", "leave 1", "4:0,2"},
		{"5:1,3", "leave 4", "4:1,3"},
		{"3:", "leave 2", "2:"},
		{"5:1,3", "mirror", "5:0,2"},
		{"2:0", "mirror", "2:0"},
		{"12:11", "mirror", "12:11"},
	} {
		for _, frame := range []string{"1>2:3:ff", "0>0:0:", "11>10:7:0001"} {
			wantLine(t, deskWith(t, c.ring, frame), c.line, deskWith(t, c.behind, frame), c.behind)
		}
	}
}

func TestLinesThatChangeTheFrame(t *testing.T) {
	sixteen := strings.Repeat("10,", 15) + "11"
	for _, c := range []struct{ frame, line, behind string }{
		{"1>2:3:ff", "frame 1>2:3:ff", "1>2:3:ff"},
		{"1>2:3:ff", "frame 0>0:0:", "0>0:0:"},
		{"0>0:0:", "frame 11>11:7:" + strings.Repeat("fe", 16), "11>11:7:" + strings.Repeat("fe", 16)},
		{"1>2:3:ff", "put 0", "1>2:3:00"},
		{"1>2:3:ff", "put 255", "1>2:3:ff"},
		{"1>2:3:ff", "put 1,2,254", "1>2:3:0102fe"},
		{"11>0:7:", "put 16", "11>0:7:10"},
		{"4>5:6:0708", "put " + sixteen, "4>5:6:" + strings.Repeat("0a", 15) + "0b"},
	} {
		for _, r := range []string{"5:1,3", "2:", "12:0,11"} {
			wantLine(t, deskWith(t, r, c.frame), c.line, deskWith(t, r, c.behind), c.behind)
		}
	}
}

func TestLinesThatAsk(t *testing.T) {
	ones := "11>10:7:" + strings.Repeat("ff", 16)
	for _, c := range []struct{ ring, frame, line, reply string }{
		{"5:1,3", "1>2:3:ff", "show", "5:1,3"},
		{"12:", "1>2:3:ff", "show", "12:"},
		{"5:1,3", "1>2:3:ff", "text", "1>2:3:ff"},
		{"5:1,3", "0>11:0:", "text", "0>11:0:"},
		{"5:", "1>2:3:ff", "pieces", "0,1,2,3,4"},
		{"3:0,1,2", "1>2:3:ff", "pieces", "0 1 2"},
		{"2:0", "1>2:3:ff", "pieces", "1,0"},
		{"5:1,3", "1>2:3:ff", "wrap 4", "4,0,1,0"},
		{"3:0,1,2", "1>2:3:ff", "wrap 2", "2"},
		{"4:", "1>2:3:ff", "wrap 3", "3,0,1,2"},
		{"5:1,3", "1>2:3:ff", "way 4 1", "4,0,1"},
		{"5:1,3", "1>2:3:ff", "way 2 2", "2"},
		{"5:1,3", "1>2:3:ff", "hops 4 1", "2"},
		{"5:1,3", "1>2:3:ff", "hops 1 4", "2"},
		{"5:1,3", "1>2:3:ff", "hops 0 0", "0"},
		{"12:", "1>2:3:ff", "hops 1 10", "3"},
		{"12:0", "1>2:3:ff", "hops 1 10", "9"},
		{"5:3", "1>2:3:ff", "carry", "1,2"},
		{"5:3", "0>0:3:ff", "carry", "0"},
		{"5:3", "4>2:0:", "carry", "4,0,1,2"},
		{"5:1,3", "1>2:3:ff", "talk", "not"},
		{"5:1", "1>2:3:ff", "talk", "yes"},
		{"5:", "1>2:3:ff", "talk", "yes"},
		{"2:0,1", "1>2:3:ff", "talk", "not"},
		{"5:1,3", "1>2:3:ff", "bytes", "18,97,255,103"},
		{"5:1,3", "0>0:0:", "bytes", "0,0,0"},
		{"5:1,3", "4>1:0:", "bytes", "65,0,78"},
		{"5:1,3", ones, "bytes", "186,240," + strings.Repeat("255,", 16) + "220"},
		{"5:1,3", "1>2:3:ff", "long", "49"},
		{"5:1,3", "0>0:0:", "long", "40"},
		{"5:1,3", ones, "long", "194"},
		{"5:1,3", "1>2:3:ff", "check 0", "0"},
		{"5:1,3", "1>2:3:ff", "check 255", "243"},
		{"5:1,3", "1>2:3:ff", "check 1,7", "0"},
		{"5:1,3", "1>2:3:ff", "check 18,97,255", "103"},
		{"5:1,3", "1>2:3:ff", "check " + strings.Repeat("255,", 39) + "255", "92"},
		{"5:1,3", "1>2:3:ff", "winner 3,1,2", "0"},
		{"5:1,3", "1>2:3:ff", "winner 0,999", "1"},
		{"5:1,3", "1>2:3:ff", "winner 0,1,2,3,4,5,6,7,8,9,10,11", "11"},
		{"5:1,3", "1>2:3:ff", "messages 3,1,2", "5"},
		{"5:1,3", "1>2:3:ff", "messages 0,1,2", "5"},
		{"5:1,3", "1>2:3:ff", "messages 2,1,0", "6"},
		{"5:1,3", "1>2:3:ff", "rounds 3,1,2", "6"},
		{"5:1,3", "1>2:3:ff", "rounds 999,0", "4"},
	} {
		wantReply(t, deskWith(t, c.ring, c.frame), c.line, c.reply)
	}
}

// A call that fails makes the reply `no`, and nothing changes.
func TestLinesThatFail(t *testing.T) {
	for _, line := range []string{
		"break 1", "break 3", "break 5", "break 12", "break 999999", "mend 0", "mend 2", "mend 4", "mend 5", "mend 999999",
		"leave 5", "leave 12", "leave 999999", "wrap 5", "wrap 999999", "way 5 0", "way 0 5", "way 1 2", "way 1 0", "way 999999 999999",
		"hops 5 0", "hops 0 5", "hops 5 5", "hops 1 2", "hops 0 3", "hops 999999 0", "carry",
		"put 256", "put 0,256", "put 999999", "put " + strings.Repeat("0,", 16) + "0", "put 1,2,3,1000",
		"check 256", "check 0,999999", "check " + strings.Repeat("0,", 40) + "0",
		"winner 1", "winner 1,1", "winner 1000,1", "winner 0,1,2,3,4,5,6,7,8,9,10,11,12", "winner 999999,0",
		"messages 1", "messages 3,1,3", "messages 0,1000", "messages 12,11,10,9,8,7,6,5,4,3,2,1,0",
		"rounds 0", "rounds 7,7", "rounds 1,2,1000", "rounds 0,1,2,3,4,5,6,7,8,9,10,11,12",
	} {
		wantReply(t, exampleDesk, line, "no")
	}
	for s := range 3 {
		wantReply(t, deskWith(t, "2:0", "1>0:0:"), "leave "+fmt.Sprint(s), "no") // of at least three stations alone
	}
	for _, frame := range []string{"5>0:0:", "0>5:0:", "5>5:0:", "11>11:7:ff", "0>11:3:"} {
		wantReply(t, deskWith(t, "5:", frame), "carry", "no") // these stations are none of the ring
		wantReply(t, deskWith(t, "5:1,3", frame), "carry", "no")
	}
	wantReply(t, deskWith(t, "12:", "11>11:0:"), "carry", "11")
	wantReply(t, deskWith(t, "12:10", "10>11:0:"), "carry", "no")
	wantReply(t, deskWith(t, "5:0,1,2,3,4", "4>4:0:"), "carry", "4")
}

// linesOfCommand are lines with all words that a ring of so many stations has, and some more.
func linesOfCommand(name, letters string, stations int) []string {
	switch letters {
	case "":
		return []string{name}
	case "n":
		var lines []string
		for n := range stations + 2 {
			lines = append(lines, fmt.Sprint(name, " ", n))
		}
		return append(lines, name+" 12", name+" 999999")
	case "nn":
		var lines []string
		for a := range stations + 1 {
			for b := range stations + 1 {
				lines = append(lines, fmt.Sprint(name, " ", a, " ", b))
			}
		}
		return lines
	}
	return nil
}

// Each line does what the call does that it names, on all rings with different frames.
func TestLinesOfAllRings(t *testing.T) {
	random := &numbers{271}
	frames := edgeFrames()
	everyRingUpTo(6, func(r impl.Ring) {
		d := impl.Desk{Ring: r, Frame: frames[random.below(len(frames))]}
		if random.below(2) == 0 {
			d.Frame.From, d.Frame.To = random.below(r.Stations+1), random.below(r.Stations+1)
		}
		for name, command := range plainCommands() {
			for _, line := range linesOfCommand(name, command.words, r.Stations) {
				checkLine(t, d, line)
			}
		}
	})
}

// As each line is compared on desks of which all else is random, those that change one thing leave the other.
func TestLinesOfManyDesks(t *testing.T) {
	random := &numbers{277}
	desks := edgeDesks()
	for range 60 {
		desks = append(desks, random.desk())
	}
	for _, d := range desks {
		for name, command := range plainCommands() {
			for _, line := range linesOfCommand(name, command.words, min(d.Ring.Stations, 4)) {
				checkLine(t, d, line)
			}
		}
		for range 8 {
			text, _ := impl.RingText(random.ring())
			checkLine(t, d, "ring "+text)
			text, _ = impl.FrameText(random.frame())
			checkLine(t, d, "frame "+text)
			checkLists(t, d, random.list(random.below(18)+1, 256+random.below(3)))
			checkLists(t, d, random.list(random.below(5)+1, 1001))
		}
	}
	for _, names := range append(edgeNames(), frameLists(t)...) {
		checkLists(t, exampleDesk, names)
	}
}

func checkLists(t *testing.T, d impl.Desk, list []int) {
	t.Helper()
	words, _ := joined(list, true)
	for _, name := range []string{"put", "check", "winner", "messages", "rounds"} {
		checkLine(t, d, name+" "+words)
	}
}

// Frames are carried from all stations to all, also those of greater rings.
func TestCarryOfAllStations(t *testing.T) {
	for _, r := range edgeRings() {
		for from := range impl.MaxStations {
			for to := range impl.MaxStations {
				checkLine(t, impl.Desk{Ring: r, Frame: impl.Frame{From: from, To: to}}, "carry")
			}
		}
	}
}

// wordsOfLines are good and bad words for random lines, the commands among them.
func wordsOfLines() []string {
	words := slices.Sorted(maps.Keys(plainCommands()))
	return append(words, "", "", "0", "0", "1", "2", "3", "4", "5", "11", "12", "255", "999999", "1000000", "01", "-1", "+1", "x",
		"1,2", "3,1,2", "0,0", "255,256", "1,", ",1", "1,,2", "999999,0", "2:", "2:0,1", "5:1,3", "5:3,1", "12:0,11", "13:",
		"1>2:3:ff", "0>0:0:", "11>10:7:00ff", "12>0:0:", "1>2:8:", "1>2:3:FF", "fly", "no", "what", "Show", "rings", "brea")
}

func (n *numbers) line(words []string) string {
	var line []string
	line = append(line, words[n.below(len(plainCommands()))]) // the commands come first
	if n.below(8) == 0 {
		line[0] = words[n.below(len(words))]
	}
	letters := plainCommands()[line[0]].words
	for i := range len(letters) {
		line = append(line, n.wordFor(letters[i]))
	}
	switch n.below(10) {
	case 0:
		line = append(line, words[n.below(len(words))])
	case 1:
		line = line[:len(line)-1]
	case 2:
		line[n.below(len(line))] = words[n.below(len(words))]
	}
	return strings.Join(line, " ")
}

// wordFor is a good word for a letter of a plain command.
func (n *numbers) wordFor(letter byte) string {
	switch letter {
	case 'r':
		text, _ := impl.RingText(n.ring())
		return text
	case 'f':
		text, _ := impl.FrameText(n.frame())
		return text
	case 'l':
		text, _ := joined(n.list(1+n.below(6), 40), true)
		return text
	}
	return fmt.Sprint(n.below(7))
}

func TestRandomLines(t *testing.T) {
	random := &numbers{281}
	words := wordsOfLines()
	for range 4000 {
		checkLine(t, random.desk(), random.line(words))
	}
}

package tests

import (
	"slices"
	"strings"
	"testing"

	"loop.example/g01176/impl"
)

// goodLines have one line for each command, none of which is refused on the first desk.
func goodLines() []string {
	return []string{
		"ring 2:0", "break 0", "mend 1", "leave 2", "mirror", "frame 0>1:2:0a", "put 7,8", "show", "text", "pieces", "wrap 2",
		"way 4 1", "hops 4 0", "talk", "bytes", "long", "check 9", "winner 4,6,5", "messages 4,6,5", "rounds 4,6,5",
	}
}

func wantWhat(t *testing.T, lines ...string) {
	t.Helper()
	for _, line := range lines {
		wantReply(t, exampleDesk, line, "what")
	}
}

func TestGoodLinesAreAll(t *testing.T) {
	commands := plainCommands()
	for _, line := range append(goodLines(), "carry") {
		name, _, _ := strings.Cut(line, " ")
		delete(commands, name)
		if _, reply, ok := impl.DeskLine(exampleDesk, line); !ok || reply == "what" || reply == "no" && name != "carry" {
			t.Errorf("DeskLine %s: %q, %v", line, reply, ok)
		}
	}
	if len(commands) != 0 {
		t.Errorf("no line for %v", commands)
	}
}

// A blank more makes an empty word, which is no word that a line can have.
func TestEmptyWords(t *testing.T) {
	wantWhat(t, "", " ", "  ", strings.Repeat(" ", 3000))
	for _, line := range append(goodLines(), "carry") {
		wantWhat(t, line+" ", " "+line, " "+line+" ", line+"  ", "  "+line)
		for i := range len(line) {
			if line[i] == ' ' {
				wantWhat(t, line[:i]+" "+line[i:], line[:i+1], line[:i+2]+" "+line[i+2:])
			}
		}
	}
	wantWhat(t, "way  1", "way 4  1", "way 4 1 ", "way  ", "hops  0", "hops 4 ", "ring ", "frame ", "put ", "break ", "check ", "carry ")
}

func TestTooFewAndTooManyWords(t *testing.T) {
	for _, line := range append(goodLines(), "carry") {
		wantWhat(t, line+" 0", line+" 1", line+" 1 2", line+" 1,2", line+" 2:", line+" 0>0:0:", line+" x", line+" "+line)
		words := strings.Split(line, " ")
		if len(words) > 1 {
			wantWhat(t, words[0], strings.Join(words[1:], " "), strings.Join(words[:len(words)-1], " "))
		}
	}
	wantWhat(t, "way 4", "hops 4", "way 4 1 0", "hops 4 0 1", "break 0 2", "mend 1 3", "ring 5:1 3", "put 1 2", "show 0", "mirror 0")
}

func TestOtherCommands(t *testing.T) {
	for _, line := range append(goodLines(), "carry") {
		name, rest, _ := strings.Cut(line, " ")
		line = strings.TrimSuffix(" "+rest, " ")
		wantWhat(t, strings.ToUpper(name)+line, strings.ToUpper(name[:1])+name[1:]+line, name+"s"+line, name[1:]+line, "x"+name+line)
		wantWhat(t, name[:len(name)-1]+line, name+":"+line, name+"\x00"+line, "\t"+name+line, name+"\t"+line, name+line+"\r")
		if line != "" {
			wantWhat(t, name+strings.Replace(line, " ", "\t", 1), name+line[1:], name+","+line[1:], name+"\u00a0"+line[1:])
		}
	}
	wantWhat(t, "fly", "no", "what", "yes", "not", "0", "5:1,3", "1>2:3:ff", "DeskLine", "turn 1", "next 0", "wrapfrom 0", "\xff", "\x00", "ｓｈｏｗ")
}

// notPlainNumbers are none of a line, though some of them are numbers elsewhere.
func notPlainNumbers() []string {
	return []string{
		"", "1000000", "1000001", "9999999", "10000000", "18446744073709551616", "9223372036854775807", "9223372036854775808", strings.Repeat("9", 1000),
		"00", "01", "007", "000000", "0999999", "0000001", "-0", "-1", "-999999", "+0", "+1", "+999999", "--1", "1-", "1+",
		"a", "x1", "1x", "0x1", "0b1", "0o1", "1e0", "1.0", "1.", ".1", "1_0", "1:", ">1", "1,0", "0,1", ",", ",1", "1,",
		"\t1", "1\t", "1\r", "\x001", "1\x00", "１", "٣", "½", "one", "\"1\"", "(1)", "'1'",
	}
}

func TestNumbersOfLines(t *testing.T) {
	for _, word := range notPlainNumbers() {
		wantWhat(t, "break "+word, "mend "+word, "leave "+word, "wrap "+word)
		for _, good := range []string{"0", "1", "999999"} {
			wantWhat(t, "way "+word+" "+good, "way "+good+" "+word, "hops "+word+" "+good, "hops "+good+" "+word)
		}
		wantWhat(t, "way "+word+" "+word, "hops "+word+" "+word)
	}
	for _, command := range []string{"break ", "mend ", "leave ", "wrap ", "way 0 ", "hops 0 "} {
		for _, word := range []string{"5", "9", "10", "12", "99", "100", "100000", "999998", "999999"} {
			wantReply(t, exampleDesk, command+word, "no") // these are numbers, but none of a station
		}
	}
	wantReply(t, deskWith(t, "12:", "0>0:0:"), "way 9 11", "9,10,11")
	wantLine(t, deskWith(t, "12:10", "0>0:0:"), "mend 10", deskWith(t, "12:", "0>0:0:"), "12:")
}

func TestListsOfLines(t *testing.T) {
	bad := []string{",", ",,", "1,", ",1", "1,,2", ",1,2", "1,2,", "1,2,,", "1;2", "1.2", "1:2", "1, 2", "1 ,2", "[1,2]", "1,2\r", "1-2", "1，2"}
	for _, word := range notPlainNumbers() {
		if !slices.Contains([]string{"1,0", "0,1"}, word) { // of numbers these are lists
			bad = append(bad, word, "1,"+word, word+",2", "1,"+word+",2", strings.Repeat("0,", 60)+word)
		}
	}
	for _, list := range bad {
		wantWhat(t, "put "+list, "check "+list, "winner "+list, "messages "+list, "rounds "+list)
	}
	for _, list := range []string{"0", "5", "999999", "0,0", "999999,999999", "5,0,999999", "256", "10,100,1000,10000,100000", strings.Repeat("7,", 700) + "7"} {
		for _, command := range []string{"put ", "check ", "winner ", "messages ", "rounds "} {
			checkLine(t, exampleDesk, command+list)
			if _, reply, ok := impl.DeskLine(exampleDesk, command+list); !ok || reply == "what" {
				t.Errorf("DeskLine %s: %q, %v", shortened(command+list), reply, ok)
			}
		}
	}
}

func TestTextsOfLines(t *testing.T) {
	for command, texts := range map[string][]string{"ring ": notRingTexts(), "frame ": notFrameTexts()} {
		for _, text := range texts {
			line := command + text
			if isPlainLine(line) {
				wantWhat(t, line)
			} else {
				wantNoLine(t, exampleDesk, line)
			}
		}
	}
	wantWhat(t, "ring 1>2:3:ff", "frame 5:1,3", "ring 5", "frame 1>2", "ring 0,1", "frame 0", "ring 5:1,3 ", "frame 1>2:3: ff")
}

// Lines that differ in one byte from a good one do just what the table says.
func TestLinesWithOneOtherByte(t *testing.T) {
	d := deskWith(t, "10:1,3", "1>2:3:ff")
	for _, line := range append(goodLines(), "carry") {
		for i := range len(line) + 1 {
			for b := range 256 {
				checkLine(t, d, line[:i]+string([]byte{byte(b)})+line[i:])
				if i < len(line) {
					checkLine(t, d, line[:i]+string([]byte{byte(b)})+line[i+1:])
				}
			}
			if i < len(line) {
				checkLine(t, d, line[:i]+line[i+1:])
			}
		}
	}
}

func TestLongestLines(t *testing.T) {
	for line, reply := range map[string]string{
		"check " + strings.Repeat("0,", 1496) + "10":   "no",
		"put " + strings.Repeat("0,", 1497) + "10":     "no",
		"rounds " + strings.Repeat("1,", 1495) + "234": "no",
		"show" + strings.Repeat(" ", 2996):             "what",
		"check " + strings.Repeat("0", 2994):           "what",
		"ring 5:" + strings.Repeat("1", 2993):          "what",
		strings.Repeat("x", 3000):                      "what",
		strings.Repeat("\x00", 3000):                   "what",
		strings.Repeat(",", 3000):                      "what",
	} {
		if len(line) != impl.MaxScript {
			t.Errorf("%s has %d bytes", shortened(line), len(line))
		}
		wantReply(t, exampleDesk, line, reply)
		wantReply(t, exampleDesk, line[:2999], reply)
		wantNoLine(t, exampleDesk, line+line[2999:])
		wantNoLine(t, exampleDesk, line+line)
	}
	wantNoLine(t, exampleDesk, strings.Repeat("x", 1<<20))
}

func TestLinesWithANewline(t *testing.T) {
	for _, line := range append(goodLines(), "carry", "fly", "") {
		wantNoLine(t, exampleDesk, line+"\n")
		wantNoLine(t, exampleDesk, "\n"+line)
		wantNoLine(t, exampleDesk, line+"\n"+line)
		wantNoLine(t, exampleDesk, line+"\r\n")
		wantReply(t, exampleDesk, line+"\r", "what")
		wantReply(t, exampleDesk, line+"\\n", "what")
	}
	wantNoLine(t, exampleDesk, strings.Repeat("x", 2999)+"\n")
}

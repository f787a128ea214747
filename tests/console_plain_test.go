package tests

import (
	"fmt"
	"regexp"
	"slices"
	"strconv"
	"strings"
	"testing"

	"loop.example/g01176/impl"
)

// exampleDesk is the first desk of the document, told once more.
var exampleDesk = impl.Desk{Ring: exampleRing, Frame: exampleFrame}

// deskWith is the desk with the ring and the frame of two texts.
func deskWith(t *testing.T, ringText, frameText string) impl.Desk {
	t.Helper()
	r, ringOk := impl.ParseRing(ringText)
	f, frameOk := impl.ParseFrame(frameText)
	if !ringOk || !frameOk {
		t.Fatalf("no desk has the texts %s and %s", ringText, frameText)
	}
	return impl.Desk{Ring: r, Frame: f}
}

func sameDesk(a, b impl.Desk) bool {
	return sameRing(a.Ring, b.Ring) && sameFrame(a.Frame, b.Frame)
}

func isNoDesk(d impl.Desk) bool {
	return sameDesk(d, impl.Desk{})
}

// edgeDesks have rings and frames at their limits, frames of which stations are none of the ring among them.
func edgeDesks() []impl.Desk {
	desks := []impl.Desk{exampleDesk}
	frames := edgeFrames()
	for i, r := range edgeRings() {
		desks = append(desks, impl.Desk{Ring: r, Frame: frames[i%len(frames)]})
	}
	for i, f := range frames {
		desks = append(desks, impl.Desk{Ring: edgeRings()[(5*i+4)%len(edgeRings())], Frame: f})
	}
	return desks
}

func notDesks() []impl.Desk {
	desks := []impl.Desk{{}, {Ring: exampleRing, Frame: impl.Frame{From: 12}}, {Frame: exampleFrame}}
	for _, r := range notRings() {
		desks = append(desks, impl.Desk{Ring: r, Frame: exampleFrame})
	}
	for _, f := range notFrames() {
		desks = append(desks, impl.Desk{Ring: exampleRing, Frame: f})
	}
	return append(desks, impl.Desk{Ring: notRings()[3], Frame: notFrames()[3]})
}

func (n *numbers) ring() impl.Ring {
	stations := 2 + n.below(11)
	oneIn := 1 + n.below(5)
	var broken []int
	for link := range stations {
		if n.below(oneIn+1) == 0 {
			broken = append(broken, link)
		}
	}
	return ring(stations, broken...)
}

func (n *numbers) desk() impl.Desk {
	return impl.Desk{Ring: n.ring(), Frame: n.frame()}
}

// plainWords are the other words of a line, read as their command wants them.
type plainWords struct {
	numbers []int
	list    []int
	ring    impl.Ring
	frame   impl.Frame
}

// plainCall makes the call that a line names. It returns the desk behind it, the reply, and what the call told.
type plainCall func(d impl.Desk, w plainWords) (impl.Desk, string, bool)

// plainCommand has one letter for each other word: a number, a list of them, a ring's or a frame's text.
type plainCommand struct {
	words string
	call  plainCall
}

const (
	numberPattern = `(0|[1-9][0-9]{0,5})`
	listPattern   = numberPattern + `(,` + numberPattern + `)*`
)

var (
	plainNumber = regexp.MustCompile(`\A` + numberPattern + `\z`)
	plainList   = regexp.MustCompile(`\A` + listPattern + `\z`)
)

// plainCommands are the lines of the chapter's table.
func plainCommands() map[string]plainCommand {
	return map[string]plainCommand{
		"ring":   {"r", changingRing(func(_ impl.Ring, w plainWords) (impl.Ring, bool) { return w.ring, true })},
		"break":  {"n", changingRing(func(r impl.Ring, w plainWords) (impl.Ring, bool) { return impl.BreakLink(r, w.numbers[0]) })},
		"mend":   {"n", changingRing(func(r impl.Ring, w plainWords) (impl.Ring, bool) { return impl.MendLink(r, w.numbers[0]) })},
		"leave":  {"n", changingRing(func(r impl.Ring, w plainWords) (impl.Ring, bool) { return impl.LeaveOut(r, w.numbers[0]) })},
		"mirror": {"", changingRing(func(r impl.Ring, _ plainWords) (impl.Ring, bool) { return impl.MirrorRing(r) })},
		"frame":  {"f", changingFrame(func(_ impl.Frame, w plainWords) impl.Frame { return w.frame })},
		"put":    {"l", changingFrame(withData)},
		"show":   {"", asking(func(d impl.Desk, _ plainWords) (string, bool) { return impl.RingText(d.Ring) })},
		"text":   {"", asking(func(d impl.Desk, _ plainWords) (string, bool) { return impl.FrameText(d.Frame) })},
		"pieces": {"", asking(plainPieces)},
		"wrap":   {"n", asking(func(d impl.Desk, w plainWords) (string, bool) { return joined(impl.WrapFrom(d.Ring, w.numbers[0])) })},
		"way": {"nn", asking(func(d impl.Desk, w plainWords) (string, bool) {
			return joined(impl.WayOf(d.Ring, w.numbers[0], w.numbers[1]))
		})},
		"hops": {"nn", asking(func(d impl.Desk, w plainWords) (string, bool) {
			return decimal(impl.DoubleHops(d.Ring, w.numbers[0], w.numbers[1]))
		})},
		"carry":    {"", asking(plainCarry)},
		"talk":     {"", asking(plainTalk)},
		"bytes":    {"", asking(func(d impl.Desk, _ plainWords) (string, bool) { return joined(impl.BytesOf(d.Frame)) })},
		"long":     {"", asking(plainLong)},
		"check":    {"l", asking(func(_ impl.Desk, w plainWords) (string, bool) { return decimal(impl.CheckOf(w.list)) })},
		"winner":   {"l", asking(func(_ impl.Desk, w plainWords) (string, bool) { return decimal(impl.WinnerOf(w.list)) })},
		"messages": {"l", asking(func(_ impl.Desk, w plainWords) (string, bool) { return decimal(impl.SimpleMessages(w.list)) })},
		"rounds":   {"l", asking(func(_ impl.Desk, w plainWords) (string, bool) { return decimal(impl.RoundMessages(w.list)) })},
	}
}

func changingRing(change func(r impl.Ring, w plainWords) (impl.Ring, bool)) plainCall {
	return func(d impl.Desk, w plainWords) (impl.Desk, string, bool) {
		r, ok := change(d.Ring, w)
		text, _ := impl.RingText(r)
		return impl.Desk{Ring: r, Frame: d.Frame}, text, ok
	}
}

func changingFrame(change func(f impl.Frame, w plainWords) impl.Frame) plainCall {
	return func(d impl.Desk, w plainWords) (impl.Desk, string, bool) {
		f := change(d.Frame, w)
		text, _ := impl.FrameText(f)
		return impl.Desk{Ring: d.Ring, Frame: f}, text, impl.IsFrame(f)
	}
}

func asking(ask func(d impl.Desk, w plainWords) (string, bool)) plainCall {
	return func(d impl.Desk, w plainWords) (impl.Desk, string, bool) {
		reply, ok := ask(d, w)
		return d, reply, ok
	}
}

func withData(f impl.Frame, w plainWords) impl.Frame {
	f.Data = w.list
	return f
}

func plainPieces(d impl.Desk, _ plainWords) (string, bool) {
	pieces, ok := impl.PiecesOf(d.Ring)
	text := ""
	for i, piece := range pieces {
		if i > 0 {
			text += " "
		}
		of, _ := joined(piece, true)
		text += of
	}
	return text, ok
}

func plainCarry(d impl.Desk, _ plainWords) (string, bool) {
	if d.Frame.From >= d.Ring.Stations || d.Frame.To >= d.Ring.Stations {
		return "", false
	}
	return joined(impl.WayOf(d.Ring, d.Frame.From, d.Frame.To))
}

func plainTalk(d impl.Desk, _ plainWords) (string, bool) {
	can, ok := impl.CanAllTalk(d.Ring)
	return map[bool]string{true: "yes", false: "not"}[can], ok
}

func plainLong(d impl.Desk, _ plainWords) (string, bool) {
	bits, ok := impl.WireOf(d.Frame)
	return decimal(len(bits), ok)
}

// joined and decimal tell the answer of a call as a reply does.
func joined(list []int, ok bool) (string, bool) {
	return strings.ReplaceAll(strings.Trim(fmt.Sprint(list), "[]"), " ", ","), ok
}

func decimal(n int, ok bool) (string, bool) {
	return fmt.Sprint(n), ok
}

// plainRead reads words as the letters say. It fails if one of them is not of its kind, or if they are too many
// or too few.
func plainRead(words []string, letters string) (plainWords, bool) {
	var w plainWords
	if len(words) != len(letters) {
		return w, false
	}
	for i, word := range words {
		ok := false
		switch letters[i] {
		case 'n':
			ok = plainNumber.MatchString(word)
			n, _ := strconv.Atoi(word)
			w.numbers = append(w.numbers, n)
		case 'l':
			ok = plainList.MatchString(word)
			for _, part := range strings.Split(word, ",") {
				n, _ := strconv.Atoi(part)
				w.list = append(w.list, n)
			}
		case 'r':
			w.ring, ok = impl.ParseRing(word)
		case 'f':
			w.frame, ok = impl.ParseFrame(word)
		}
		if !ok {
			return w, false
		}
	}
	return w, true
}

// plainLine executes a line on a desk by the chapter's table.
func plainLine(d impl.Desk, line string) (impl.Desk, string) {
	words := strings.Split(line, " ")
	command, found := plainCommands()[words[0]]
	w, ok := plainRead(words[1:], command.words)
	if !found || !ok {
		return d, "what"
	}
	behind, reply, ok := command.call(d, w)
	if !ok {
		return d, "no"
	}
	return behind, reply
}

// isPlainLine tells what DeskLine takes of a line.
func isPlainLine(line string) bool {
	return len(line) <= 3000 && !slices.Contains([]byte(line), '\n')
}

// shortened is for messages: lines may be long.
func shortened(s string) string {
	return fmt.Sprintf("%.60q", s)
}

// checkLine compares with the call that the line names.
func checkLine(t *testing.T, d impl.Desk, line string) {
	t.Helper()
	if !isPlainLine(line) {
		wantNoLine(t, d, line)
		return
	}
	behind, reply := plainLine(d, line)
	wantLine(t, d, line, behind, reply)
}

func wantLine(t *testing.T, d impl.Desk, line string, wantBehind impl.Desk, want string) {
	t.Helper()
	behind, reply, ok := impl.DeskLine(d, line)
	if !ok || reply != want || !sameDesk(behind, wantBehind) {
		t.Errorf("DeskLine %v, %s: %v, %q, %v, want %v, %q", d, shortened(line), behind, reply, ok, wantBehind, want)
	}
}

// wantReply wants that nothing changes.
func wantReply(t *testing.T, d impl.Desk, line string, want string) {
	t.Helper()
	wantLine(t, d, line, d, want)
}

func wantNoLine(t *testing.T, d impl.Desk, line string) {
	t.Helper()
	behind, reply, ok := impl.DeskLine(d, line)
	if ok || reply != "" || !isNoDesk(behind) {
		t.Errorf("DeskLine %v, %s: %v, %q, %v, want a failure", d, shortened(line), behind, reply, ok)
	}
}

// wantScript wants replies, the desk behind them, and the failed lines.
func wantScript(t *testing.T, s string, behind impl.Desk, failed []int, replies ...string) {
	t.Helper()
	got, ok := impl.RunScript(s)
	if !ok || !slices.Equal(got, replies) {
		t.Errorf("RunScript %s: %q, %v, want %q", shortened(s), got, ok, replies)
	}
	desk, ok := impl.DeskAfter(s)
	if !ok || !sameDesk(desk, behind) {
		t.Errorf("DeskAfter %s: %v, %v, want %v", shortened(s), desk, ok, behind)
	}
	lines, ok := impl.FailedLines(s)
	wantInts(t, "FailedLines "+shortened(s), lines, ok, failed)
}

func wantNoScript(t *testing.T, s string) {
	t.Helper()
	replies, ok := impl.RunScript(s)
	if ok || len(replies) != 0 {
		t.Errorf("RunScript %s: %q, %v, want a failure", shortened(s), replies, ok)
	}
	desk, ok := impl.DeskAfter(s)
	if ok || !isNoDesk(desk) {
		t.Errorf("DeskAfter %s: %v, %v, want a failure", shortened(s), desk, ok)
	}
	lines, ok := impl.FailedLines(s)
	wantNoInts(t, "FailedLines "+shortened(s), lines, ok)
}

// isPlainScript tells what a script is.
func isPlainScript(s string) bool {
	return len(s) <= 3000 && strings.Count(s, "\n") <= 50 && (s == "" || s[len(s)-1] == '\n')
}

// checkScript compares with DeskLine, line by line from the first desk on.
func checkScript(t *testing.T, s string) {
	t.Helper()
	if !isPlainScript(s) {
		wantNoScript(t, s)
		return
	}
	desk := exampleDesk
	var replies []string
	var failed []int
	for rest := s; rest != ""; {
		line, behind, _ := strings.Cut(rest, "\n")
		rest = behind
		next, reply, ok := impl.DeskLine(desk, line)
		if !ok {
			t.Errorf("DeskLine %v, %s fails", desk, shortened(line))
		}
		desk = next
		replies = append(replies, reply)
		if reply == "no" || reply == "what" {
			failed = append(failed, len(replies))
		}
	}
	wantScript(t, s, desk, failed, replies...)
}

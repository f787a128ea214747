package tests

import (
	"strings"
	"sync"
	"testing"

	"loop.example/g01176/impl"
)

// consoleTexts are lines, scripts and what is neither.
func consoleTexts() []string {
	texts := append(goodLines(), "carry", "fly", "", " ", "\n", "\n\n", "show\n", "show\ntext", exampleScript, exampleScript+"show")
	for _, line := range goodLines() {
		texts = append(texts, line+" ", line+" 1", line+"\n", "x"+line)
	}
	texts = append(texts, "break 1", "break 999999", "break 1000000", "break -1", "mend 0", "leave 5", "wrap 5", "way 0 2", "way 9 9", "hops 0 2", "hops 1")
	texts = append(texts, "put 256", "put 1,,2", "put "+strings.Repeat("0,", 16)+"0", "check 256", "winner 1,1", "messages 5", "rounds 1000,0", "ring 1:", "frame 12>0:0:")
	for _, n := range []int{2999, 3000, 3001, 1 << 16} {
		for _, part := range []string{"x", " ", "\n", "\x00", "\xff", "0"} {
			texts = append(texts, strings.Repeat(part, n), strings.Repeat(part, n-1)+"\n")
		}
		texts = append(texts, "put "+strings.Repeat("0,", n/2-3)+"0", "check "+strings.Repeat(",", n-6))
	}
	return append(texts, strings.Repeat("\n", 50), strings.Repeat("\n", 51), strings.Repeat("mirror\n", 50), strings.Repeat("put 1,2\n", 51))
}

func consoleFunctions() map[string]any {
	return map[string]any{
		"FirstDesk":   impl.FirstDesk,
		"IsDesk":      impl.IsDesk,
		"DeskLine":    impl.DeskLine,
		"RunScript":   impl.RunScript,
		"DeskAfter":   impl.DeskAfter,
		"FailedLines": impl.FailedLines,
	}
}

func TestConsoleIsSafe(t *testing.T) {
	p := pools{}
	for _, d := range append(edgeDesks(), notDesks()...) {
		p.add(d)
	}
	p.add(impl.Desk{Ring: ring(5, []int{}...), Frame: impl.Frame{Data: []int{}}})
	for _, s := range consoleTexts() {
		p.add(s)
	}
	for name, function := range consoleFunctions() {
		checkSafety(t, name, function, p)
	}
}

// A desk that is changed behind a call changes no answer, of this call or of another one.
func TestDesksAreApart(t *testing.T) {
	for _, line := range append(goodLines(), "carry", "fly") {
		d := impl.FirstDesk()
		want, wantReply := plainLine(exampleDesk, line)
		behind, _, ok := impl.DeskLine(d, line)
		other, _, _ := impl.DeskLine(d, line)
		spoil(d.Ring.Broken)
		spoil(d.Frame.Data)
		spoil(other.Ring.Broken)
		spoil(other.Frame.Data)
		if !ok || !sameDesk(behind, want) {
			t.Errorf("DeskLine %s: %v, %v behind a change, want %v", line, behind, ok, want)
		}
		wantLine(t, exampleDesk, line, want, wantReply)
	}
}

func spoil(list []int) {
	for i := range list {
		list[i] = 77
	}
}

// Calls at the same time, of the same arguments, do not disturb each other.
func TestConsolesAtTheSameTime(t *testing.T) {
	random := &numbers{293}
	words := wordsOfLines()
	var lines []string
	for range 200 {
		lines = append(lines, random.line(words))
	}
	var callers sync.WaitGroup
	for range 8 {
		callers.Go(func() {
			for i, line := range lines {
				checkLine(t, exampleDesk, line)
				checkScript(t, strings.Join(lines[i:min(i+20, len(lines))], "\n")+"\n")
			}
			checkScript(t, exampleScript)
		})
	}
	callers.Wait()
}

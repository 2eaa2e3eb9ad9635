package tests

import (
	"slices"
	"strings"
	"testing"

	"loop.example/g01411/impl"
)

// run is what lines put out, one after the other, and the desk behind them.
func run(t *testing.T, lines []string) (impl.Desk, string) {
	t.Helper()
	d, outputs := impl.NewDesk(), ""
	for _, line := range lines {
		if line == "" {
			continue
		}
		next, out := impl.RunLine(d, line)
		if !impl.IsDesk(next) || out == "" || out == "error" && !areEqualDesks(d, next) {
			t.Errorf("%q on %v: %v, %q", line, d, next, out)
		}
		d, outputs = next, outputs+out+"\n"
	}
	return d, outputs
}

// checkText runs a text on the console and expects outputs and a desk.
func checkText(t *testing.T, text string, outputs string, d impl.Desk) {
	t.Helper()
	for range 2 {
		if got := impl.Console(text); got != outputs {
			t.Errorf("Console(%.200q) = %q instead of %q", text, got, outputs)
		}
		after, isKept := impl.DeskAfter(text)
		if !isKept || !impl.IsDesk(after) || !areEqualDesks(after, d) {
			t.Errorf("DeskAfter(%.200q) = %v, %v instead of %v", text, after, isKept, d)
		}
		// What is written here into the desk must not be seen by the second run.
		checkOwnMemory(t, text, after)
	}
}

// checkRefused expects that the console refuses a text.
func checkRefused(t *testing.T, text string) {
	t.Helper()
	if got := impl.Console(text); got != "" {
		t.Errorf("Console(%.80q) = %q", text, got)
	}
	if d, isKept := impl.DeskAfter(text); isKept || !areEqualDesks(d, impl.Desk{}) {
		t.Errorf("DeskAfter(%.80q) = %v, %v", text, d, isKept)
	}
}

// someLines are lines that change each part of the desk, that show it, and that are wrong.
func someLines() []string {
	return []string{
		"space 2222", "space 33", "space 9", "code 000,011", "code 00,12,21", "code 99", "words", "words 0 1 5", "words 1 0",
		"shift 5", "lean 1", "greedy 1", "cover 1", "apart 2", "most 2", "hamming 2 2", "hamming 3 2", "hamming 5 2", "perfect 1", "switch 0 1",
		"lottery 4 2 3 2", "lottery 6 3 3 2", "lottery 1 2 3 4", "tickets", "tickets 3", "tickets 7 56", "buy", "few",
		"show", "look", "see", "view", "covers 1", "radius", "counts 1", "excess 1", "needed 1", "least 1", "bounds 1", "isperfect 1", "shifts",
		"missed", "hits", "prizes 7", "strength", "missing 2", "rows 2", "reset", "fly", " ", "show ",
	}
}

// The outputs of one line are those of the line alone, whatever lines are before it: they count by the
// desk behind them alone.
func TestTextsOfTwoLines(t *testing.T) {
	for _, first := range someLines() {
		d, before := run(t, []string{first})
		checkText(t, first, before, d)
		for _, second := range someLines() {
			next, out := impl.RunLine(d, second)
			checkText(t, first+"\n"+second+"\n", before+out+"\n", next)
		}
	}
}

func TestTextsOfManyLines(t *testing.T) {
	lines := someLines()
	for start := range lines {
		for step := 1; step < len(lines); step += 3 {
			chosen := []string{}
			for k := range impl.MaxLines - 1 {
				chosen = append(chosen, lines[(start+k*step)%len(lines)])
			}
			d, outputs := run(t, chosen)
			checkText(t, strings.Join(chosen, "\n"), outputs, d)
		}
	}
}

// Empty lines are left out, but each is one of the lines that a text may have.
func TestEmptyLines(t *testing.T) {
	d, outputs := run(t, []string{"shift 1", "buy", "radius"})
	for _, text := range []string{
		"shift 1\nbuy\nradius", "shift 1\nbuy\nradius\n", "\nshift 1\nbuy\nradius", "shift 1\n\nbuy\n\n\nradius",
		"shift 1\nbuy\nradius\n\n", "\n\n\nshift 1\n\nbuy\n\nradius\n\n\n\n",
		strings.Repeat("\n", impl.MaxLines-3) + "shift 1\nbuy\nradius\n", "shift 1\nbuy\nradius" + strings.Repeat("\n", impl.MaxLines-2),
	} {
		checkText(t, text, outputs, d)
	}
	for n := range impl.MaxLines + 1 {
		checkText(t, strings.Repeat("\n", n), "", newByHand())
	}
	// A line of blanks is not empty, and no command either.
	for _, line := range []string{" ", "  ", "   ", "\t", "\r", "\x00"} {
		checkText(t, line, "error\n", newByHand())
		checkText(t, "\n"+line+"\n"+line+"\n\n", "error\nerror\n", newByHand())
	}
}

func TestAsManyLinesAsThereMayBe(t *testing.T) {
	if impl.MaxLines != 40 || impl.MaxConsole != 4000 {
		t.Errorf("MaxLines = %d, MaxConsole = %d", impl.MaxLines, impl.MaxConsole)
	}
	for _, line := range []string{"hits", "fly", "code 001", "lottery 4 1 1 1"} {
		lines := slices.Repeat([]string{line}, impl.MaxLines)
		d, outputs := run(t, lines)
		whole := strings.Join(lines, "\n")
		checkText(t, whole, outputs, d)
		checkText(t, whole+"\n", outputs, d)
		for _, more := range []string{line, line + "\n", "\n", " ", "x", "\n\n", "\n" + line} {
			checkRefused(t, whole+"\n"+more)
		}
		checkRefused(t, "\n"+whole)
		checkRefused(t, "\n"+whole+"\n")
		checkRefused(t, strings.Repeat(line+"\n", 300))
	}
	for n := impl.MaxLines + 1; n < 2*impl.MaxConsole; n += n / 9 {
		checkRefused(t, strings.Repeat("\n", n))
	}
	checkRefused(t, strings.Repeat("\n", impl.MaxLines)+"hits")
	checkRefused(t, "hits"+strings.Repeat("\n", impl.MaxLines+1))
}

// longText is a text of two lines that lay a code of many words on the desk. It has MaxConsole bytes.
func longText() (string, []int64) {
	text, words := "space 44444\nwords", []int64{}
	for w := range int64(1018) {
		text, words = text+" "+outNumbers(w), append(words, w)
	}
	return text + strings.Repeat("\n", impl.MaxConsole-len(text)), words
}

func TestAsManyBytesAsThereMayBe(t *testing.T) {
	text, words := longText()
	d := newByHand()
	d.Space, d.Code = space(t, 4, 4, 4, 4, 4), words
	if len(text) != impl.MaxConsole {
		t.Fatalf("the text has %d bytes", len(text))
	}
	checkText(t, text, "44444\n"+codeTextByHand(d.Space, words)+"\n", d)
	for _, more := range []string{"\n", " ", "x", "\x00", "hits", strings.Repeat("\n", 5000), text} {
		checkRefused(t, text+more)
		checkRefused(t, more+text)
	}
	for n := range 20 {
		one := strings.Repeat("x", impl.MaxConsole-n)
		checkText(t, one, "error\n", newByHand())
		checkText(t, one[n:]+strings.Repeat("\n", n), "error\n", newByHand())
		checkRefused(t, strings.Repeat("x", impl.MaxConsole+1+n))
	}
	// It is bytes that count.
	checkText(t, strings.Repeat("\u00e9", impl.MaxConsole/2), "error\n", newByHand())
	checkRefused(t, strings.Repeat("\u00e9", impl.MaxConsole/2)+"x")
	checkRefused(t, strings.Repeat("\u00e9", impl.MaxConsole-1))
}

func TestTextsWrittenOut(t *testing.T) {
	for _, c := range []struct {
		text    string
		outputs string
	}{
		{"", ""},
		{"radius", "1\n"},
		{"show\nlook\nsee\nview\n", "222\n000,111\n5 2 2 1\nnone\n"},
		{"words\nlook\nradius\ncovers 8\ncounts 0\nneeded 1\nlean 3\nshift 7\nstrength\nmissing 1", "none\nnone\nerror\nno\n8\nnone\nnone\nnone\n0\n0 0;0 1;1 0;1 1;2 0;2 1\n"},
		{"words 0 3 5 6\nradius\nstrength\nmissing 2\nmissing 1\nneeded 2\nneeded 0\nexcess 1", "000,011,101,110\n1\n2\nnone\nnone\nnone\n0 3 5 6\n8\n"},
		{"covers 0\ncovers 1\ncovers 3\ncovers 9\ncounts 3\ncounts 0\nisperfect 0\nisperfect 1", "no\nyes\nyes\nerror\n0 0 8\n6 2 0\nno\nyes\n"},
		{"space 2\nlook\nbounds 0\nbounds 1\nleast 0\nleast 1\ncover 0\nlook\ncover 1\nspace 5\nshow", "2\nnone\n2 2\n1 1\nerror\n1\nerror\nnone\n0\nerror\n2\n"},
		{"code \nlook\nspace \nshow\ncode 000\nlook\ncode 000,000\nlook", "error\n000,111\nerror\n222\n000\n000\nerror\n000\n"},
		{"code 000,001\nhamming 2 1\nlook\nspace 33\nhamming 2 2\nradius\nhamming 3 2\nshow\nshifts", "000,001\nerror\n000,001\n33\n222 000,111\n1\n" +
			"3333 0000,0111,0222,1012,1120,1201,2021,2102,2210\n3333\n0 1 2 3 4 5 6 7 8\n"},
		{"hits\nmissed\nprizes 3\nprizes 0\ntickets 3 12\nmissed\nprizes 3\nview\nlottery 5 2 2 1\nview\nmissed", "7\n10\n0 0 0\nerror\n3 12\n0\n1 0 1\n3 12\n5 2 2 1\nnone\n10\n"},
		{"tickets 3\ntickets 12 3\nview\ntickets 1\nview\ntickets\nview", "3\nerror\n3\nerror\n3\nnone\nnone\n"},
		{"lottery 5 2 2 3\nsee\nlottery 13 1 1 1\nsee\nlottery 12 1 12 1\nsee\nfew", "error\n5 2 2 1\nerror\n5 2 2 1\n12 1 12 1\n12 1 12 1\n1\n"},
		{"rows 3\nrows 2\nrows 0\nrows 4\nspace 23\nrows 2\nrows 3\nmissing 1", "0 1 2 3 4 5 6 7\n0 3 5 6\nerror\nerror\n23\n0 1 2 3 4 5\nerror\n0 0;0 1;1 0;1 1;1 2\n"},
		{"buy\nspace 33\ncode 00,12\nreset\nshow\nlook\nsee\nview", "3 12\n33\n00,12\nok\n222\n000,111\n5 2 2 1\nnone\n"},
		{"buy\nspace 33\ncode 00,12\nlottery 4 3 2 1\nreset now\nshow\nlook\nsee", "3 12\n33\n00,12\n4 3 2 1\nerror\n33\n00,12\n4 3 2 1\n"},
		{"buy\nspace 33\nview\nwords 1\ncode 22\nview\nlottery 9 1 1 1\nlook\nshow", "3 12\n33\n3 12\n01\n22\n3 12\n9 1 1 1\n22\n33\n"},
		{"few\nmissed\nlottery 5 2 2 2\nhits\nmissed\nfew\nbuy\nmissed", "3 12\n0\n5 2 2 2\n1\n10\nerror\n3 5 6 9 10 12 17 18 20 24\n0\n"},
		{"shift 1\nshift 1\nshift 7\nshift 8\nswitch 0 0\nswitch 0 1\nswitch 3 3\nswitch 3 2\nswitch 2 0", "001,110\n000,111\n000,111\nerror\n011,100\nerror\nerror\n010,101\n001,110\n"},
	} {
		d, outputs := run(t, strings.Split(c.text, "\n"))
		checkText(t, c.text, outputs, d)
		if outputs != c.outputs {
			t.Errorf("%q: %q instead of %q", c.text, outputs, c.outputs)
		}
	}
}

// The new desk is a desk, and a new one each time.
func TestNewDesk(t *testing.T) {
	for range 3 {
		d := impl.NewDesk()
		if !impl.IsDesk(d) || !areEqualDesks(d, newByHand()) {
			t.Errorf("NewDesk() = %v", d)
		}
		checkOwnMemory(t, "NewDesk", d)
		next, out := impl.RunLine(newByHand(), "reset")
		if out != "ok" || !areEqualDesks(next, newByHand()) {
			t.Errorf("reset: %v, %q", next, out)
		}
		checkOwnMemory(t, "reset", next)
	}
}

func TestIsDesk(t *testing.T) {
	for _, d := range desks(t) {
		given := deskWithSpare(d)
		if !impl.IsDesk(d) || !impl.IsDesk(given) || !isUntouchedDesk(given, d) {
			t.Errorf("IsDesk(%v) = false, or it changes the desk", d)
		}
	}
}

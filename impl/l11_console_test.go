package impl

import (
	"errors"
	"strconv"
	"strings"
	"testing"
)

// No function takes a number of nine digits, so that a line does not show where numbers end.
func TestGreatestNumberOfALine(t *testing.T) {
	for word, want := range map[string]int64{"0": 0, "9": 9, "10": 10, "99999999": 99999999, "100000000": 100000000, "999999999": 999999999} {
		if number := numberOf(word); number != want {
			t.Errorf("numberOf(%q) = %d", word, number)
		}
	}
	for _, word := range []string{"", "-1", "+1", "-0", "00", "01", "0999999999", "1000000000", "9999999999", "9223372036854775808"} {
		_, err := tried(func() string { return strconv.FormatInt(numberOf(word), 10) })
		if !errors.Is(err, wrongLine{whyWords}) || !errors.Is(err, errWrongLine) {
			t.Errorf("numberOf(%q): %v", word, err)
		}
	}
}

// errors.Is finds in the error of each wrong line that it is wrong, and why.
func TestErrorsOfWrongLines(t *testing.T) {
	for _, c := range []struct {
		line    string
		words   bool
		refused bool
	}{
		{"", false, false}, {"fly", false, false}, {" radius", false, false}, {"Show", false, false},
		{"radius 1", true, false}, {"radius ", true, false}, {"covers", true, false}, {"covers x", true, false}, {"covers 01", true, false},
		{"space", true, false}, {"code 000 111", true, false}, {"words x", true, false}, {"lottery 5 2 2", true, false}, {"reset 1", true, false},
		{"covers 9", false, true}, {"space 5", false, true}, {"space ", false, true}, {"code ", false, true}, {"words 8", false, true},
		{"lottery 5 2 2 3", false, true}, {"tickets 0", false, true}, {"hamming 5 2", false, true}, {"perfect 2", false, true},
	} {
		d := clerk{Desk: NewDesk()}
		out, err := d.outputOf(c.line)
		if out != "" || !errors.Is(err, errWrongLine) || errors.Is(err, wrongLine{whyWords}) != c.words || errors.Is(err, wrongLine{whyRefused}) != c.refused {
			t.Errorf("%q: %q, %v", c.line, out, err)
		}
	}
	d := clerk{Desk: NewDesk()}
	if out, err := d.outputOf("radius"); out != "1" || err != nil {
		t.Errorf("radius: %q, %v", out, err)
	}
}

// Nothing goes past the door but an error, whatever a command is a panic with.
func TestPanicsOfCommands(t *testing.T) {
	for name, command := range map[string]func() string{
		"a wrong word":    func() string { panic(wrongLine{whyWords}) },
		"a refusal":       func() string { require(false); return "out" },
		"another error":   func() string { panic(errors.New("something else")) },
		"a runtime error": func() string { words := strings.Split("a b", " "); return words[len(words)] },
		"no error":        func() string { panic("a text") },
	} {
		if out, err := tried(command); out != "" || !errors.Is(err, errWrongLine) {
			t.Errorf("%s: %q, %v", name, out, err)
		}
	}
	if out, err := tried(func() string { return "out" }); out != "out" || err != nil {
		t.Errorf("no panic: %q, %v", out, err)
	}
}

// Commands work on the desk of the clerk that they are asked of, and on no other.
func TestCommandsOfTwoClerks(t *testing.T) {
	one, other := clerk{Desk: NewDesk()}, clerk{Desk: NewDesk()}
	for name := range one.commands() {
		if _, isKnown := other.commands()[name]; !isKnown || len(other.commands()) != 36 {
			t.Errorf("%s is no command, or there are others", name)
		}
	}
	first, second := one.commands()["buy"], other.commands()["look"]
	if first() != "3 12" || second() != "000,111" || len(one.Tickets) != 2 || len(other.Tickets) != 0 {
		t.Errorf("the clerks share a desk: %v, %v", one.Desk, other.Desk)
	}
}

package tests

import (
	"math"
	"slices"
	"strings"
	"testing"

	"loop.example/g01411/impl"
)

// failLine expects that a line has the output error and changes nothing.
func failLine(t *testing.T, d impl.Desk, line string) {
	t.Helper()
	checkLine(t, d, line, outcome{code: impl.ErrSyntax})
}

// goodLines are lines of all commands that are no errors on the new desk.
func goodLines() []string {
	return []string{
		"space 33", "code 000,011", "words", "words 7", "words 0 1 5", "shift 5", "lean 1", "greedy 1", "cover 1", "apart 2", "most 2",
		"hamming 2 2", "perfect 1", "switch 0 1", "lottery 4 2 3 2", "tickets", "tickets 3", "tickets 3 5 12", "buy", "few",
		"show", "look", "see", "view", "covers 1", "radius", "counts 1", "excess 1", "needed 1", "least 1", "bounds 1", "isperfect 1",
		"shifts", "missed", "hits", "prizes 24", "strength", "missing 2", "rows 2", "reset",
	}
}

// wrongDesks are two desks on which wrong lines are run.
func wrongDesks(t *testing.T) []impl.Desk {
	return []impl.Desk{newByHand(), {
		Space:   space(t, 2, 2, 2),
		Code:    []int64{0, 3, 5, 6},
		Lottery: impl.Lottery{Numbers: 5, Picked: 3, Drawn: 2, Hits: 1},
		Tickets: []int64{7, 25},
	}}
}

func TestGoodLinesAreNoErrors(t *testing.T) {
	commands := map[string]bool{}
	for _, line := range goodLines() {
		if _, out := impl.RunLine(impl.NewDesk(), line); out == "error" || out == "" {
			t.Errorf("%q: %q", line, out)
		}
		commands[strings.Fields(line)[0]] = true
	}
	if len(commands) != 36 {
		t.Errorf("%d commands instead of 36", len(commands))
	}
}

func TestLinesWithTooFewWords(t *testing.T) {
	for _, d := range wrongDesks(t) {
		for _, line := range goodLines() {
			words := strings.Split(line, " ")
			if words[0] == "words" || words[0] == "tickets" {
				continue
			}
			for n := range words {
				failLine(t, d, strings.Join(words[:n], " "))
			}
			// The command itself is no word that may be missing.
			failLine(t, d, strings.Join(words[1:], " "))
		}
	}
}

func TestLinesWithTooManyWords(t *testing.T) {
	for _, d := range wrongDesks(t) {
		for _, line := range goodLines() {
			for _, more := range []string{" ", "  ", "   ", " x", " none", " -1", " 0 ", " 1 x", " reset", "\n", "\nradius", "\r", "\t", "\x00", "\u00a0", " \xff"} {
				failLine(t, d, line+more)
			}
			name := strings.Split(line, " ")[0]
			if name != "words" && name != "tickets" {
				for _, more := range []string{" 0", " 1", " 255", " 0 0", " 1 2 3"} {
					failLine(t, d, line+more)
				}
			}
		}
	}
}

// A blank too many gives an empty word, which is no command and no number.
func TestLinesWithEmptyWords(t *testing.T) {
	for _, d := range wrongDesks(t) {
		for _, line := range goodLines() {
			words := strings.Split(line, " ")
			for k := range words {
				failLine(t, d, strings.Join(slices.Insert(slices.Clone(words), k, ""), " "))
				failLine(t, d, strings.Join(slices.Insert(slices.Clone(words), k, "", ""), " "))
				failLine(t, d, strings.Join(slices.Replace(slices.Clone(words), k, k+1, ""), " "))
			}
			failLine(t, d, line+" ")
			failLine(t, d, " "+line)
		}
	}
}

func TestLinesWithOtherBytesBetweenTheirWords(t *testing.T) {
	for _, d := range wrongDesks(t) {
		for _, line := range goodLines() {
			for _, other := range []string{"\t", "\n", "\r", "\x00", "\u00a0", ",", ";", "", "  "} {
				if strings.Contains(line, " ") {
					failLine(t, d, strings.ReplaceAll(line, " ", other))
				}
			}
		}
	}
}

func TestUnknownCommands(t *testing.T) {
	lines := []string{"", " ", "  ", "0", "7 1", "none", "yes", "ok", "error", "fly", "buyer", "showlook", "show,look", "\n", "\nshow", "show\n", "show\nlook", "#", "\x00", "\xff\xfe"}
	for _, line := range goodLines() {
		words := strings.Split(line, " ")
		name, rest := words[0], strings.TrimPrefix(line, words[0])
		for _, other := range []string{strings.ToUpper(name), strings.ToUpper(name[:1]) + name[1:], "x" + name, name + "x", name[1:], name + name, name + "\t", "\t" + name, name + "\x00"} {
			lines = append(lines, other+rest)
		}
	}
	for _, d := range wrongDesks(t) {
		for _, line := range lines {
			failLine(t, d, line)
		}
		// A beginning of a command may be a command itself, but none of these is.
		for _, line := range goodLines() {
			words := strings.Split(line, " ")
			if words[0] != "covers" && words[0] != "shifts" {
				failLine(t, d, strings.Join(append([]string{words[0][:len(words[0])-1]}, words[1:]...), " "))
			}
		}
	}
}

// noNumbers are words that are no numbers, or not as numbers are written.
func noNumbers() []string {
	return []string{
		"x", "-", "+", "-0", "+0", "-1", "+1", "-2", "+2", "00", "01", "02", "07", "001", "000000001", "000000000", "0000000000", "0000000001",
		"1.", "1.0", ".1", "1e0", "1,", "0x1", "0b1", "0o1", "1_0", "0_1", "1a", "a1", "i", "one", "none", "yes", "1\t", "\t1", "1\n", "1\r", "1\x00",
		"\u0661", "\uff11", "\u00b9", "1\u00a0", "\xff", "1000000000", "4294967296", "4294967297", "9223372036854775807", "9223372036854775808",
		"-9223372036854775808", "18446744073709551616", "18446744073709551617", "18446744073709551619", "340282366920938463463374607431768211457",
		strings.Repeat("0", 200) + "1", strings.Repeat("9", 3000),
	}
}

func TestWordsThatAreNoNumbers(t *testing.T) {
	for _, d := range wrongDesks(t) {
		for _, line := range goodLines() {
			words := strings.Split(line, " ")
			if words[0] == "space" || words[0] == "code" {
				continue
			}
			for k := 1; k < len(words); k++ {
				for _, word := range noNumbers() {
					failLine(t, d, strings.Join(slices.Replace(slices.Clone(words), k, k+1, word), " "))
				}
				failLine(t, d, strings.Join(slices.Replace(slices.Clone(words), k, k+1, "0"+words[k]), " "))
				failLine(t, d, strings.Join(slices.Replace(slices.Clone(words), k, k+1, "+"+words[k]), " "))
				failLine(t, d, strings.Join(slices.Replace(slices.Clone(words), k, k+1, "-"+words[k]), " "))
			}
		}
	}
}

// Numbers of up to nine digits that no function takes are errors of the functions.
func TestNumbersThatNoFunctionTakes(t *testing.T) {
	for _, d := range wrongDesks(t) {
		for _, c := range append(oneNumber(), someNumbers()...) {
			for _, x := range []int64{100, 4096, 1 << 16, 99999999, 100000000, 999999998, 999999999} {
				numbers := make([]int64, c.words)
				for k := range numbers {
					for i := range numbers {
						numbers[i] = 2
					}
					numbers[k] = x
					if c.run(d, numbers).code == impl.ErrNone {
						t.Errorf("%s takes %v", c.name, numbers)
					}
					failLine(t, d, lineOf(c.name, numbers))
				}
			}
		}
		for _, line := range []string{"words 8", "words 0 8", "words 1 0", "words 0 0", "words 0 1 1", "words 999999999", "words 0 1 2 3 4 5 6 7 8", "words 0 3 2",
			"tickets 0", "tickets 1", "tickets 3 3", "tickets 7 7", "tickets 12 3", "tickets 25 7", "tickets 32", "tickets 999999999", "tickets 3 5 4", "tickets 7 25 0"} {
			failLine(t, d, line)
		}
	}
}

// Of four numbers those become a lottery that are one.
func TestLinesOfNoLottery(t *testing.T) {
	for _, d := range wrongDesks(t) {
		for _, l := range noLotteries() {
			failLine(t, d, lineOf("lottery", []int64{l.Numbers, l.Picked, l.Drawn, l.Hits}))
		}
	}
}

func TestLinesOfNoTickets(t *testing.T) {
	for _, c := range lottoCases(4) {
		d := newByHand()
		d.Lottery, d.Tickets = c.lottery, c.tickets[:1]
		for _, tickets := range noTicketLists(c.tickets) {
			failLine(t, d, lineOf("tickets", tickets))
		}
		for _, set := range noSets(c.lottery.Numbers, c.lottery.Picked) {
			failLine(t, d, lineOf("tickets", []int64{set}))
		}
	}
}

func TestLinesOfNoCodes(t *testing.T) {
	for _, s := range append(smallSpaces(t), largeSpaces(t)...) {
		n, _ := impl.CountWords(s)
		d := newByHand()
		d.Space, d.Code = s, []int64{1}
		for _, code := range noCodes(n) {
			failLine(t, d, lineOf("words", code))
		}
	}
}

// noDesks are things that are no desks, each because of one part.
func noDesks(t *testing.T) []impl.Desk {
	cases := []impl.Desk{{}, {Lottery: newByHand().Lottery}, {Space: space(t, 2, 2, 2), Code: []int64{0, 7}}}
	add := func(change func(d *impl.Desk)) {
		d := newByHand()
		d.Tickets = []int64{3, 12}
		change(&d)
		cases = append(cases, d)
	}
	for _, s := range noSpaces() {
		add(func(d *impl.Desk) { d.Space = s })
		add(func(d *impl.Desk) { d.Space, d.Code, d.Tickets = s, nil, nil })
	}
	for _, code := range noCodes(8) {
		add(func(d *impl.Desk) { d.Code = code })
	}
	add(func(d *impl.Desk) { d.Space = space(t, 2, 2) })
	for _, l := range noLotteries() {
		add(func(d *impl.Desk) { d.Lottery = l })
		add(func(d *impl.Desk) { d.Lottery, d.Tickets = l, nil })
	}
	for _, tickets := range [][]int64{{0}, {1}, {7}, {32}, {33}, {-1}, {12, 3}, {3, 3}, {3, 5, 5}, {3, 12, 48}, {math.MinInt64, 3}, {3, math.MaxInt64}, upTo(201)} {
		add(func(d *impl.Desk) { d.Tickets = tickets })
	}
	add(func(d *impl.Desk) { d.Lottery.Picked = 3 })
	add(func(d *impl.Desk) {
		d.Lottery = impl.Lottery{Numbers: 12, Picked: 6, Drawn: 6, Hits: 3}
		d.Tickets = newLottoCase(d.Lottery).tickets[:impl.MaxTickets+1]
	})
	return cases
}

func TestThingsThatAreNoDesks(t *testing.T) {
	for _, d := range noDesks(t) {
		given := deskWithSpare(d)
		if impl.IsDesk(given) {
			t.Errorf("IsDesk(%v) = true", d)
		}
		for _, line := range append(goodLines(), "", " ", "fly", "radius 1", "space", "code ", "words x") {
			next, out := impl.RunLine(given, line)
			if out != "" || !areEqualDesks(next, impl.Desk{}) {
				t.Errorf("%q on %v: %v, %q", line, d, next, out)
			}
		}
		if !isUntouchedDesk(given, d) {
			t.Errorf("what is no desk is changed: %v", given)
		}
	}
}

// As many tickets as there may be are no error, and one more is no desk.
func TestDesksWithManyTickets(t *testing.T) {
	d := newByHand()
	d.Lottery = impl.Lottery{Numbers: 12, Picked: 6, Drawn: 6, Hits: 3}
	all := newLottoCase(d.Lottery).tickets
	for n, want := range map[int]bool{0: true, 1: true, impl.MaxTickets: true, impl.MaxTickets + 1: false, len(all): false} {
		d.Tickets = all[:n]
		if impl.IsDesk(d) != want {
			t.Errorf("IsDesk with %d tickets = %v", n, !want)
		}
	}
}

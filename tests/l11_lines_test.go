package tests

import (
	"fmt"
	"slices"
	"strings"
	"testing"

	"loop.example/g01411/impl"
)

// outcome is the desk behind a line, what is put out, and what the functions return as a code.
type outcome struct {
	desk impl.Desk
	out  string
	code int64
}

// outNumbers puts numbers out.
func outNumbers(numbers ...int64) string {
	if len(numbers) == 0 {
		return "none"
	}
	return strings.Trim(fmt.Sprint(numbers), "[]")
}

// outLists puts lists of numbers out.
func outLists(lists [][]int64) string {
	texts := []string{}
	for _, x := range lists {
		texts = append(texts, outNumbers(x...))
	}
	if len(texts) == 0 {
		return "none"
	}
	return strings.Join(texts, ";")
}

// outCode puts the code of a desk out.
func outCode(d impl.Desk) string {
	if len(d.Code) == 0 {
		return "none"
	}
	return codeTextByHand(d.Space, d.Code)
}

// outSpace puts the space of a desk out.
func outSpace(d impl.Desk) string {
	return strings.ReplaceAll(outNumbers(d.Space.Sizes...), " ", "")
}

// outLottery puts the lottery of a desk out.
func outLottery(d impl.Desk) string {
	return outNumbers(d.Lottery.Numbers, d.Lottery.Picked, d.Lottery.Drawn, d.Lottery.Hits)
}

// asked is the outcome of a line that changes nothing.
func asked(d impl.Desk, out string, code int64) outcome { return outcome{d, out, code} }

// codeLaid is the outcome of a line that lays a code on a desk.
func codeLaid(d impl.Desk, code []int64, err int64) outcome {
	d.Code = code
	if err != impl.ErrNone {
		return outcome{code: err}
	}
	return outcome{d, outCode(d), err}
}

// ticketsLaid is the outcome of a line that lays tickets on a desk.
func ticketsLaid(d impl.Desk, tickets []int64, err int64) outcome {
	d.Tickets = tickets
	return outcome{d, outNumbers(tickets...), err}
}

// told is the code for what a line asks for with if.
func told(isSo bool) int64 {
	if isSo {
		return impl.ErrNone
	}
	return impl.ErrRange
}

// command is a command with a number of words behind it that are numbers.
type command struct {
	name  string
	words int
	run   func(d impl.Desk, x []int64) outcome
}

// lays is a command with one number that lays a code on a desk.
func lays(name string, by func(d impl.Desk, x int64) ([]int64, int64)) command {
	return command{name, 1, func(d impl.Desk, x []int64) outcome {
		code, err := by(d, x[0])
		return codeLaid(d, code, err)
	}}
}

// asks is a command with one number, or none, that asks for something that out puts out.
func asks[T any](name string, words int, out func(T) string, by func(d impl.Desk, x int64) (T, int64)) command {
	return command{name, words, func(d impl.Desk, x []int64) outcome {
		result, err := by(d, slices.Concat(x, []int64{0})[0])
		return asked(d, out(result), err)
	}}
}

// out1, outList and outYes put results of functions out.
func out1(x int64) string      { return outNumbers(x) }
func outList(x []int64) string { return outNumbers(x...) }
func outYes(isSo bool) string  { return map[bool]string{true: "yes", false: "no"}[isSo] }

// layingCommands are the commands with one number that lay a code on a desk.
func layingCommands() []command {
	return []command{
		lays("shift", func(d impl.Desk, w int64) ([]int64, int64) { return impl.ShiftCode(d.Space, d.Code, w) }),
		lays("lean", func(d impl.Desk, r int64) ([]int64, int64) { return impl.LeanCode(d.Space, d.Code, r) }),
		lays("greedy", func(d impl.Desk, r int64) ([]int64, int64) { return impl.GreedyCode(d.Space, r) }),
		lays("cover", func(d impl.Desk, r int64) ([]int64, int64) { return impl.FirstCover(d.Space, r) }),
		lays("apart", func(d impl.Desk, x int64) ([]int64, int64) { return impl.GreedyApart(d.Space, x) }),
		lays("most", func(d impl.Desk, x int64) ([]int64, int64) { return impl.FirstApart(d.Space, x) }),
		lays("perfect", func(d impl.Desk, r int64) ([]int64, int64) { return impl.FirstPerfect(d.Space, r) }),
	}
}

// askingCommands are the commands with one number that change nothing.
func askingCommands() []command {
	return []command{
		asks("covers", 1, outYes, func(d impl.Desk, r int64) (bool, int64) { return impl.CoversSpace(d.Space, d.Code, r) }),
		asks("counts", 1, outList, func(d impl.Desk, r int64) ([]int64, int64) { return impl.CoverCounts(d.Space, d.Code, r) }),
		asks("excess", 1, out1, func(d impl.Desk, r int64) (int64, int64) { return impl.ExcessOf(d.Space, d.Code, r) }),
		asks("needed", 1, outList, func(d impl.Desk, r int64) ([]int64, int64) { return impl.NeededWords(d.Space, d.Code, r) }),
		asks("least", 1, out1, func(d impl.Desk, r int64) (int64, int64) { return impl.LeastNumber(d.Space, r) }),
		asks("bounds", 1, outList, func(d impl.Desk, r int64) ([]int64, int64) {
			least, err := impl.BallBound(d.Space, r)
			greatest, other := impl.FreeBound(d.Space, r)
			return []int64{least, greatest}, max(err, other)
		}),
		asks("isperfect", 1, outYes, func(d impl.Desk, r int64) (bool, int64) { return impl.IsPerfect(d.Space, d.Code, r) }),
		asks("prizes", 1, outList, func(d impl.Desk, x int64) ([]int64, int64) { return impl.PrizesOf(d.Lottery, d.Tickets, x) }),
		asks("missing", 1, outLists, func(d impl.Desk, k int64) ([][]int64, int64) { return impl.MissingChoices(d.Space, d.Code, k) }),
		asks("rows", 1, outList, func(d impl.Desk, k int64) ([]int64, int64) { return impl.GreedyRows(d.Space, k) }),
	}
}

// oneNumber are the commands with one number.
func oneNumber() []command { return append(layingCommands(), askingCommands()...) }

// noNumber are the commands without a number.
func noNumber() []command {
	return []command{
		{"buy", 0, func(d impl.Desk, _ []int64) outcome {
			tickets, err := impl.GreedyTickets(d.Lottery)
			return ticketsLaid(d, tickets, err)
		}},
		{"few", 0, func(d impl.Desk, _ []int64) outcome {
			tickets, err := impl.LeastTickets(d.Lottery)
			return ticketsLaid(d, tickets, err)
		}},
		{"show", 0, func(d impl.Desk, _ []int64) outcome { return asked(d, outSpace(d), impl.ErrNone) }},
		{"look", 0, func(d impl.Desk, _ []int64) outcome { return asked(d, outCode(d), impl.ErrNone) }},
		{"see", 0, func(d impl.Desk, _ []int64) outcome { return asked(d, outLottery(d), impl.ErrNone) }},
		{"view", 0, func(d impl.Desk, _ []int64) outcome { return asked(d, outList(d.Tickets), impl.ErrNone) }},
		asks("radius", 0, out1, func(d impl.Desk, _ int64) (int64, int64) { return impl.RadiusOf(d.Space, d.Code) }),
		asks("shifts", 0, outList, func(d impl.Desk, _ int64) ([]int64, int64) { return impl.FirstShifts(d.Space, d.Code) }),
		asks("missed", 0, out1, func(d impl.Desk, _ int64) (int64, int64) { return impl.CountMissed(d.Lottery, d.Tickets) }),
		asks("hits", 0, out1, func(d impl.Desk, _ int64) (int64, int64) { return impl.DrawsHit(d.Lottery) }),
		asks("strength", 0, out1, func(d impl.Desk, _ int64) (int64, int64) { return impl.StrengthOf(d.Space, d.Code) }),
		{"reset", 0, func(impl.Desk, []int64) outcome { return asked(newByHand(), "ok", impl.ErrNone) }},
	}
}

// someNumbers are the commands with two numbers or four.
func someNumbers() []command {
	return []command{
		{"hamming", 2, func(d impl.Desk, x []int64) outcome {
			s, code, err := impl.HammingCode(x[0], x[1])
			d.Space = s
			laid := codeLaid(d, code, err)
			return asked(laid.desk, outSpace(d)+" "+laid.out, err)
		}},
		{"switch", 2, func(d impl.Desk, x []int64) outcome {
			code, err := impl.SwitchBundle(d.Space, d.Code, x[0], x[1])
			return codeLaid(d, code, err)
		}},
		{"lottery", 4, func(d impl.Desk, x []int64) outcome {
			d.Lottery, d.Tickets = impl.Lottery{Numbers: x[0], Picked: x[1], Drawn: x[2], Hits: x[3]}, nil
			return asked(d, outLottery(d), told(impl.IsLottery(d.Lottery)))
		}},
	}
}

// wordsBy is the outcome of the command words.
func wordsBy(d impl.Desk, list []int64) outcome {
	if yes, err := impl.IsCode(d.Space, list); !yes || err != impl.ErrNone {
		return outcome{code: impl.ErrRange}
	}
	return codeLaid(d, list, impl.ErrNone)
}

// ticketsBy is the outcome of the command tickets.
func ticketsBy(d impl.Desk, list []int64) outcome {
	_, err := impl.Guarantees(d.Lottery, list)
	return ticketsLaid(d, list, err)
}

// spaceBy is the outcome of the command space.
func spaceBy(d impl.Desk, text string) outcome {
	s, err := impl.ParseSpace(text)
	d.Space, d.Code = s, nil
	return asked(d, text, err)
}

// codeBy is the outcome of the command code.
func codeBy(d impl.Desk, text string) outcome {
	code, err := impl.ParseCode(d.Space, text)
	return codeLaid(d, code, err)
}

// newByHand is the new desk.
func newByHand() impl.Desk {
	return impl.Desk{
		Space:   impl.Space{Sizes: []int64{2, 2, 2}},
		Code:    []int64{0, 7},
		Lottery: impl.Lottery{Numbers: 5, Picked: 2, Drawn: 2, Hits: 1},
	}
}

// areEqualDesks reports whether desks have the same parts.
func areEqualDesks(x impl.Desk, y impl.Desk) bool {
	return slices.Equal(x.Space.Sizes, y.Space.Sizes) && slices.Equal(x.Code, y.Code) &&
		x.Lottery == y.Lottery && slices.Equal(x.Tickets, y.Tickets)
}

// deskWithSpare returns a copy of a desk with space behind its lists that must be left as it is.
func deskWithSpare(d impl.Desk) impl.Desk {
	return impl.Desk{
		Space:   impl.Space{Sizes: withSpare(d.Space.Sizes)},
		Code:    withSpare(d.Code),
		Lottery: d.Lottery,
		Tickets: withSpare(d.Tickets),
	}
}

// isUntouchedDesk reports whether a desk from deskWithSpare is still as it was.
func isUntouchedDesk(d impl.Desk, want impl.Desk) bool {
	return isUntouched(d.Space.Sizes, want.Space.Sizes) && isUntouched(d.Code, want.Code) &&
		d.Lottery == want.Lottery && isUntouched(d.Tickets, want.Tickets)
}

// checkOwnMemory writes into the lists of a desk, one by one and also behind their ends: the others
// must stay as they are.
func checkOwnMemory(t *testing.T, line string, d impl.Desk) {
	t.Helper()
	left := [][]int64{d.Space.Sizes, d.Code, d.Tickets}
	for len(left) > 0 {
		kept := [][]int64{}
		for _, x := range left[1:] {
			kept = append(kept, slices.Clone(x))
		}
		fill(left[0])
		left = left[1:]
		if !areEqualLists(left, kept) {
			t.Errorf("%.80q: the parts of the desk share memory: %v", line, d)
		}
	}
}

// checkLine runs a line on a desk and expects what the functions return. It returns whether the line
// has another output than error.
func checkLine(t *testing.T, d impl.Desk, line string, want outcome) bool {
	t.Helper()
	if want.code != impl.ErrNone {
		want.desk, want.out = d, "error"
	}
	given := deskWithSpare(d)
	for range 2 {
		next, out := impl.RunLine(given, line)
		if out != want.out || !areEqualDesks(next, want.desk) {
			t.Errorf("%.80q on %v: %v, %q instead of %v, %q", line, d, next, out, want.desk, want.out)
		}
		if !impl.IsDesk(next) {
			t.Errorf("%.80q on %v leads to no desk: %v", line, d, next)
		}
		// What is written here into the desk behind the line must not be seen by the second run.
		checkOwnMemory(t, line, next)
		if !isUntouchedDesk(given, d) {
			t.Fatalf("%.80q changes the desk that is given, or gives out parts of it: %v", line, given)
		}
	}
	return want.code == impl.ErrNone
}

// lineOf puts a line together.
func lineOf(name string, numbers []int64) string {
	if len(numbers) == 0 {
		return name
	}
	return name + " " + outNumbers(numbers...)
}

// desks are desks of all kinds: codes and tickets without elements, with one, some, and all of them.
func desks(t *testing.T) []impl.Desk {
	cases, k := []impl.Desk{newByHand()}, 0
	lotteries := append(allLotteries(4), largeLotteries()...)
	small := smallSpaces(t)
	for i, s := range append(small, largeSpaces(t)...) {
		codes := fewCodes(s)
		if i >= len(small) {
			codes = codes[4:]
		}
		for _, code := range codes {
			l := lotteries[k*5%len(lotteries)]
			cases = append(cases, impl.Desk{Space: s, Code: code, Lottery: l, Tickets: someTickets(l, k)})
			k++
		}
	}
	return cases
}

// someTickets are tickets of a lottery, of one of four kinds.
func someTickets(l impl.Lottery, kind int) []int64 {
	tickets := []int64{}
	for _, list := range numberLists(l.Numbers, l.Picked) {
		tickets = append(tickets, sumOfPowers(list))
	}
	slices.Sort(tickets)
	tickets = tickets[:min(len(tickets), impl.MaxTickets)]
	switch kind % 4 {
	case 0:
		return nil
	case 1:
		return tickets[len(tickets)-1:]
	case 2:
		return tickets[:(len(tickets)+1)/2]
	}
	return tickets
}

func TestLinesWithoutNumbers(t *testing.T) {
	for _, c := range noNumber() {
		count := 0
		for _, d := range desks(t) {
			if checkLine(t, d, c.name, c.run(d, nil)) {
				count++
			}
		}
		if count == 0 {
			t.Errorf("%s is always an error", c.name)
		}
	}
}

func TestLinesWithOneNumber(t *testing.T) {
	for _, c := range oneNumber() {
		count := 0
		for _, d := range desks(t) {
			n, _ := impl.CountWords(d.Space)
			numbers := append(upTo(5), 7, 8, 9, 12, n-1, n, 4095, 999999999)
			if c.name == "prizes" {
				numbers = append(numbers, 15, 24, 48, 63, 127, 1023, 2047, 4032)
			}
			for _, x := range numbers {
				if checkLine(t, d, lineOf(c.name, []int64{x}), c.run(d, []int64{x})) {
					count++
				}
			}
		}
		if count == 0 {
			t.Errorf("%s is always an error", c.name)
		}
	}
}

// quadruples are lists of numbers for lotteries.
func quadruples() [][]int64 {
	lists := [][]int64{{12, 12, 12, 12}, {12, 1, 12, 1}, {12, 6, 5, 5}, {12, 6, 5, 6}, {13, 6, 5, 5}, {12, 13, 5, 5}, {12, 5, 13, 5},
		{999999999, 1, 1, 1}, {5, 999999999, 1, 1}, {5, 2, 999999999, 1}, {5, 2, 2, 999999999}, {5, 2, 2, 1}}
	for _, list := range listsUpTo(4, 4) {
		if len(list) == 4 {
			lists = append(lists, list)
		}
	}
	return lists
}

func TestLinesWithSomeNumbers(t *testing.T) {
	lists := map[int][][]int64{4: quadruples(), 2: {{7, 1}, {1, 7}, {6, 2}, {0, 999999999}, {999999999, 0}, {255, 7}, {1023, 4}}}
	for _, list := range listsUpTo(6, 2) {
		if len(list) == 2 {
			lists[2] = append(lists[2], list)
		}
	}
	for _, c := range someNumbers() {
		count := 0
		for _, d := range append(desks(t), hammingDesks(t)...) {
			for _, x := range lists[c.words] {
				if checkLine(t, d, lineOf(c.name, x), c.run(d, x)) {
					count++
				}
			}
		}
		if count == 0 {
			t.Errorf("%s is always an error", c.name)
		}
	}
}

// hammingDesks are desks with perfect codes, whose bundles can be switched.
func hammingDesks(t *testing.T) []impl.Desk {
	cases := []impl.Desk{}
	for _, x := range [][]int64{{2, 2}, {2, 3}, {3, 2}} {
		s, code, err := impl.HammingCode(x[0], x[1])
		if err != impl.ErrNone {
			t.Fatalf("HammingCode(%v) returns %d", x, err)
		}
		d := newByHand()
		d.Space, d.Code = s, code
		cases = append(cases, d)
	}
	return cases
}

// Of all short lists of numbers, those become codes that are codes, and those tickets that are tickets.
func TestLinesWithLists(t *testing.T) {
	codes, tickets := 0, 0
	for _, d := range []impl.Desk{
		newByHand(),
		{Space: space(t, 2, 3), Code: upTo(6), Lottery: impl.Lottery{Numbers: 4, Picked: 1, Drawn: 2, Hits: 1}, Tickets: []int64{1, 8}},
		{Space: space(t, 4), Code: nil, Lottery: impl.Lottery{Numbers: 3, Picked: 2, Drawn: 3, Hits: 2}, Tickets: []int64{3}},
	} {
		for _, list := range listsUpTo(10, 4) {
			if checkLine(t, d, lineOf("words", list), wordsBy(d, list)) {
				codes++
			}
			if checkLine(t, d, lineOf("tickets", list), ticketsBy(d, list)) {
				tickets++
			}
		}
	}
	// No word, or up to four of eight, six and four; no ticket, or up to four and three of those below ten.
	if codes != 163+57+16 || tickets != 16+16+8 {
		t.Errorf("%d codes, %d tickets", codes, tickets)
	}
}

func TestLinesWithLongLists(t *testing.T) {
	d := impl.Desk{Space: space(t, 4, 4, 4, 4, 4), Lottery: impl.Lottery{Numbers: 12, Picked: 6, Drawn: 6, Hits: 3}}
	all := []int64{}
	for _, list := range numberLists(12, 6) {
		all = append(all, sumOfPowers(list))
	}
	slices.Sort(all)
	for n, isFew := range map[int]bool{1: true, 7: true, 199: true, impl.MaxTickets: true, impl.MaxTickets + 1: false, 600: false, len(all): false} {
		if checkLine(t, d, lineOf("tickets", all[:n]), ticketsBy(d, all[:n])) != isFew {
			t.Errorf("%d tickets: %v", n, !isFew)
		}
	}
	for n, isCode := range map[int64]bool{1: true, 200: true, 201: true, 1023: true, impl.MaxWords: true, impl.MaxWords + 1: false} {
		if checkLine(t, d, lineOf("words", upTo(n)), wordsBy(d, upTo(n))) != isCode {
			t.Errorf("%d words: %v", n, !isCode)
		}
	}
}

func TestLinesWithTextsOfSpaces(t *testing.T) {
	count := 0
	for k, d := range desks(t) {
		texts := []string{"", "22222222", "44444", "43222222", "222222222", "444442", "42 ", " 42", "2\n", "none", "2222", "999999999"}
		if k%8 == 0 {
			texts = append(texts, textsOfDigits(4, "1234")...)
		}
		for _, text := range texts {
			want := spaceBy(d, text)
			if want.code == impl.ErrNone && !isTextOfSpace(text) {
				t.Errorf("%q is the text of no space", text)
			}
			if checkLine(t, d, "space "+text, want) {
				count++
			}
		}
	}
	if count == 0 {
		t.Error("space is always an error")
	}
}

// The code behind the line is the one whose text is given, and the text is put out again.
func TestLinesWithTextsOfCodes(t *testing.T) {
	for _, s := range []impl.Space{space(t, 2, 2, 2), space(t, 2, 3), space(t, 4), space(t, 3, 3)} {
		n, _ := impl.CountWords(s)
		d := newByHand()
		d.Space, d.Code, d.Tickets = s, []int64{1}, []int64{3, 5}
		for _, code := range allCodes(n) {
			text := codeTextByHand(s, code)
			checkLine(t, d, "code "+text, codeLaid(d, code, told(len(code) > 0)))
			checkLine(t, d, "code "+text+",", outcome{code: impl.ErrSyntax})
			checkLine(t, d, "code ,"+text, outcome{code: impl.ErrSyntax})
		}
		for _, text := range []string{"none", "0", "9", "00000000", "000,000", "111,000", "01,00", "1,0", "2,2", "000;111", "000, 111", "0 1", "00 ", " 00"} {
			checkLine(t, d, "code "+text, codeBy(d, text))
		}
	}
}

func TestLinesWithTextsOfManyCodes(t *testing.T) {
	for _, d := range desks(t) {
		for _, code := range someCodes(d.Space) {
			text := codeTextByHand(d.Space, code)
			if checkLine(t, d, "code "+text, codeBy(d, text)) != (len(code) > 0) {
				t.Errorf("the code %v of %v", code, d.Space)
			}
		}
	}
}

package front_test

import (
	"math/rand/v2"
	"strings"
	"testing"

	"lading/api"
	"lading/front"
)

// reads tells that a text is read as acts.
func reads(t *testing.T, text string, want ...api.Act) {
	t.Helper()
	if l, why, at := front.Parse(text); !same(l, want) || why != api.OK || at != 0 {
		t.Errorf("Parse(%.80q): %+v, error %d, line %d, and not %+v", text, l, why, at, want)
	}
}

// isNone tells that a text is none, why, and at which line.
func isNone(t *testing.T, text string, want api.Errno, line int) {
	t.Helper()
	if l, why, at := front.Parse(text); len(l) != 0 || why != want || at != line {
		t.Errorf("Parse(%.80q): %d acts, error %d, line %d, and not error %d, line %d", text, len(l), why, at, want, line)
	}
}

// noLine tells that a line is no act's, alone, behind another one and ahead of one.
func noLine(t *testing.T, line string) {
	t.Helper()
	isNone(t, line+"\n", api.ErrSyntax, 1)
	isNone(t, "cancel 1\n"+line+"\n", api.ErrSyntax, 2)
	isNone(t, line+"\ncancel 1\n", api.ErrSyntax, 1)
	if line != "" {
		isNone(t, "cancel 1\nstatus 1\n"+line, api.ErrSyntax, 3)
	}
}

// Promise 20.1: every line of the table, without a mark and with one; pump has none.
func TestParseOfTheTable(t *testing.T) {
	reads(t, "")
	text, acts := "", []api.Act{}
	for _, w := range table() {
		reads(t, w.line+"\n", w.act)
		text, acts = text+w.line+"\n", append(acts, w.act)
		for _, m := range marks() {
			if w.act.Pump {
				noLine(t, join("as", m, w.line))
				continue
			}
			reads(t, join("as", m, w.line)+"\n", marked(m, w.act))
			text, acts = text+join("as", m, w.line)+"\n", append(acts, marked(m, w.act))
		}
	}
	reads(t, text, acts...)
}

// Promise 20.1: a line without LF is none, the only one or the last one.
func TestParseWithoutLF(t *testing.T) {
	for _, w := range table() {
		isNone(t, w.line, api.ErrSyntax, 1)
		isNone(t, w.line+"\n"+w.line, api.ErrSyntax, 2)
		noLine(t, w.line+"\r")
	}
	isNone(t, "pump 0 accept\n\n", api.ErrSyntax, 2)
	isNone(t, "\n", api.ErrSyntax, 1)
	isNone(t, "\npump 0 accept\n", api.ErrSyntax, 1)
}

// Promise 20.1: of each line of the table: an unknown word in each place, a word too few or too many, two blanks in each place, a blank at either end, another blank.
func TestParseOfWrongWords(t *testing.T) {
	for _, w := range table() {
		lines := []string{w.line}
		if !w.act.Pump {
			lines = append(lines, "as m "+w.line)
		}
		for _, line := range lines {
			words := strings.Split(line, " ")
			if len(words) > 20 {
				continue
			}
			for i := range words {
				for _, other := range []string{"", "x", "Checkout", "1.0", "accept ", "é", "\x00", "as"} {
					if words[i] != other && !(i == 1 && words[0] == "as" && other != "" && strings.Trim(other, "asx") == "") {
						noLine(t, join(join(words[:i]...), other, join(words[i+1:]...)))
					}
				}
			}
			noLine(t, strings.Join(words, "\t"))
			noLine(t, strings.ToUpper(line))
			noLine(t, " "+line)
			noLine(t, line+" ")
			noLine(t, line+" x")
			noLine(t, line+" 1") // of none of them is that a line more, or all of one
			noLine(t, strings.Replace(line, " ", "  ", 1))
			noLine(t, line[:strings.LastIndex(line, " ")+1])
			for n := range words {
				if short := join(words[:n]...); !isWhole(short) {
					noLine(t, short)
				}
			}
		}
	}
	for _, line := range []string{"", " ", "as", "as m", "as m ", "as  cancel 1", "as m as m cancel 1", "pump", "pump 0", "pump accept", "pump 0 accept accept", "pump 0 accept 1", "pump 0 none", "pump 0 Accept", "checkout", "checkout 1", "restock", "free", "free 1", "free 1 1 1", "free 1 1 1 1", "cancel", "cancel 1 1", "return 1 1 1 1 1", "status", "checkpoint", "order 1 open 6.00", "reply ok none 0.00", "#", "cancel 1;"} {
		noLine(t, line)
	}
}

// isWhole tells whether words of a line of the table are a line of their own.
func isWhole(line string) bool {
	words := strings.Split(strings.TrimPrefix(line, "as m "), " ")
	switch words[0] {
	case "checkout":
		return len(words) > 2 && len(words)%4 == 2
	case "restock":
		return len(words) > 1 && len(words)%3 == 1
	}
	return false
}

// Promise 20.1: words that are no numbers, in each place where there is one.
func TestParseOfWrongNumbers(t *testing.T) {
	for _, form := range []string{"checkout N 1 1 2 300", "checkout 1 N 1 2 300", "checkout 1 1 N 2 300", "checkout 1 1 1 N 300", "checkout 1 1 1 2 N", "checkout 1 1 1 2 300 1 1 2 N", "cancel N", "return N", "status N", "restock N 1 5", "restock 1 N 5", "restock 1 1 N", "restock 1 1 5 1 N 5", "free N 1", "free 1 N", "pump N accept", "pump N reject"} {
		for _, n := range []string{"0", "1", "-1", "10", "9223372036854775807", "-9223372036854775808"} {
			if _, why, _ := front.Parse(strings.ReplaceAll(form, "N", n) + "\n"); why != api.OK {
				t.Errorf("Parse of %s with %s: error %d", form, n, why)
			}
		}
		for _, n := range []string{"", "-", "+", "+1", "-0", "00", "01", "-01", "0x1", "1e3", "1_000", "1.", "1,0", "--1", "1-", "٣", "9223372036854775808", "-9223372036854775809", "99999999999999999999", "10000000000000000000000000000", "nil", "1\x00", "\xff"} {
			noLine(t, strings.ReplaceAll(form, "N", n))
		}
	}
}

// Promise 20.1: words that are none of marks.
func TestParseOfWrongMarks(t *testing.T) {
	for _, m := range noMarks() {
		if !strings.Contains(m, "\n") {
			noLine(t, "as "+m+" cancel 1")
		}
	}
	isNone(t, "as \n cancel 1\n", api.ErrSyntax, 1)
	isNone(t, "as a\n cancel 1\n", api.ErrSyntax, 1)
}

// Promise 20.1: texts of MaxScript bytes, and of one more, whatever they are.
func TestParseOfLongTexts(t *testing.T) {
	long := "checkout 1" + strings.Repeat(" 1 1 1 1", (api.MaxScript-11-8)/8)
	long += strings.Repeat("1", api.MaxScript-1-len(long)) // the last number is longer
	if l, why, _ := front.Parse(long + "\n"); len(long)+1 != api.MaxScript || len(l) != 1 || why != api.OK {
		t.Error("Parse of", len(long)+1, "bytes:", len(l), "error", why)
	}
	isNone(t, long+"1\n", api.ErrLong, 0)
	isNone(t, long+"\n\n", api.ErrLong, 0)
	isNone(t, long+" ", api.ErrSyntax, 1)
	for _, c := range []string{"\n", " ", "x", "\x00"} {
		isNone(t, strings.Repeat(c, api.MaxScript), api.ErrSyntax, 1)
		isNone(t, strings.Repeat(c, api.MaxScript+1), api.ErrLong, 0)
		isNone(t, strings.Repeat(c, 1<<20), api.ErrLong, 0)
	}
}

// Promise 20.1: texts of MaxCommands lines, and of one more; what is wrong ahead of that is told, and what is behind it is not.
func TestParseOfManyLines(t *testing.T) {
	const n = api.MaxCommands
	text := strings.Repeat("cancel 1\n", n)
	if l, why, at := front.Parse(text); len(l) != n || why != api.OK || at != 0 {
		t.Error("Parse of", n, "lines:", len(l), "error", why, at)
	}
	isNone(t, text+"cancel 1\n", api.ErrMany, n+1)
	isNone(t, text+"cancel 1\ncancel 1\n", api.ErrMany, n+1)
	isNone(t, text+"cancel 1\nno line\n", api.ErrMany, n+1)
	isNone(t, text+"cancel 1\ncancel 1", api.ErrMany, n+1)
	isNone(t, text+"cancel 1", api.ErrSyntax, n+1)
	isNone(t, text+"no line\n", api.ErrSyntax, n+1)
	isNone(t, text+"\n", api.ErrSyntax, n+1)
	isNone(t, "no line\n"+text, api.ErrSyntax, 1)
	isNone(t, text[9:]+"no line\ncancel 1\n", api.ErrSyntax, n)
}

// Promise 20.6: texts that are spoilt at random are none, or printed as they are.
func TestPrintOfParse(t *testing.T) {
	r := rand.New(rand.NewPCG(20, 1))
	read, none := 0, 0
	for range 20000 {
		w := table()[r.IntN(len(table()))]
		text := w.line + "\n"
		if !w.act.Pump && r.IntN(2) == 0 {
			text = join("as", marks()[r.IntN(len(marks()))], text)
		}
		b := []byte(text)
		for range r.IntN(3) {
			i := r.IntN(len(b))
			c := "0123456789-\n abcdefghij"[r.IntN(23)]
			switch r.IntN(3) {
			case 0:
				b[i] = c
			case 1:
				b = append(b[:i], append([]byte{c}, b[i:]...)...)
			default:
				b = append(b[:i], b[i+1:]...)
			}
		}
		l, why, at := front.Parse(string(b))
		if why != api.OK {
			if why != api.ErrSyntax || at < 1 || len(l) != 0 {
				t.Fatalf("Parse(%q): error %d, line %d", b, why, at)
			}
			none++
			continue
		}
		read++
		if s, why := front.Print(l); s != string(b) || why != api.OK || at != 0 {
			t.Fatalf("Print of Parse(%q): %q, error %d, line %d", b, s, why, at)
		}
	}
	if read < 2000 || none < 2000 {
		t.Error("read:", read, "none:", none)
	}
}

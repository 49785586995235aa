package front_test

import (
	"math"
	"math/rand/v2"
	"slices"
	"strings"
	"testing"

	"lading/api"
	"lading/front"
)

// prints tells that acts are printed as a text.
func prints(t *testing.T, want string, l ...api.Act) {
	t.Helper()
	if s, why := front.Print(l); s != want || why != api.OK {
		t.Errorf("Print: %.80q, error %d, and not %.80q", s, why, want)
	}
}

// isNotPrinted tells that acts are not printed, and why.
func isNotPrinted(t *testing.T, want api.Errno, l ...api.Act) {
	t.Helper()
	if s, why := front.Print(l); s != "" || why != want {
		t.Errorf("Print: %.80q, error %d, and not %d", s, why, want)
	}
}

// Promises 20.2 and 20.6: every line of the table, with a mark and without one.
func TestPrintOfTheTable(t *testing.T) {
	prints(t, "")
	for _, w := range table() {
		prints(t, w.line+"\n", w.act)
		prints(t, w.line+"\npump 0 reject\n"+w.line+"\n", w.act, pump(0, api.VerdictReject), w.act)
		for _, m := range marks() {
			if w.act.Pump {
				prints(t, w.line+"\n", marked(m, w.act)) // its plain form has no mark
			} else {
				prints(t, join("as", m, w.line)+"\n", marked(m, w.act))
			}
		}
	}
}

// Promise 20.2: acts whose plain form has no line.
func TestPrintOfWhatHasNoLine(t *testing.T) {
	one := line(1, 1, 1, 1)
	none := []api.Act{ask(api.AskCheckout, 1), ask(api.AskRestock, 1), ask(api.AskFree, 1), marked("m", ask(api.AskFree, 1))}
	for n := 0; n < 256; n++ {
		if kind := api.AskKind(n); !slices.Contains(kinds(), kind) {
			none = append(none, ask(kind, 1, one))
		}
		if v := api.Verdict(n); v > api.VerdictReject {
			none = append(none, pump(1, v))
		}
	}
	for _, m := range noMarks() {
		for _, kind := range kinds() {
			none = append(none, marked(m, ask(kind, 1, one)))
		}
	}
	for _, a := range none {
		isNotPrinted(t, api.ErrType, a)
		isNotPrinted(t, api.ErrType, ask(api.AskCancel, 1), a)
		isNotPrinted(t, api.ErrType, a, ask(api.AskCancel, 1))
	}
	odd := ask(api.AskCancel, 1, one) // what its line has not is no matter
	odd.Verdict, odd.Pick = 99, 7
	prints(t, "cancel 1\n", odd)
	odd = pump(3, api.VerdictAccept)
	odd.Ask = api.Ask{Mark: "No Mark", Kind: 99, Order: 5, Lines: []api.Line{one}}
	prints(t, "pump 3 accept\n", odd)
	prints(t, "free 1 2\n", ask(api.AskFree, 9, line(1, 2, 3, 4), line(5, 6, 7, 8)))
	prints(t, "restock 1 2 3 5 6 7\n", ask(api.AskRestock, 9, line(1, 2, 3, 4), line(5, 6, 7, 8)))
}

// Promise 20.2: ErrMany ahead of ErrType ahead of ErrLong, at their ends.
func TestPrintRefused(t *testing.T) {
	cancel, none := ask(api.AskCancel, 1), ask(api.AskNone, 1)
	most := slices.Repeat([]api.Act{cancel}, api.MaxCommands)
	prints(t, strings.Repeat("cancel 1\n", api.MaxCommands), most...)
	isNotPrinted(t, api.ErrMany, append(slices.Clone(most), cancel)...)
	isNotPrinted(t, api.ErrMany, append(slices.Clone(most), none)...)
	isNotPrinted(t, api.ErrMany, slices.Repeat([]api.Act{none}, api.MaxCommands+1)...)
	isNotPrinted(t, api.ErrType, append(slices.Clone(most[1:]), none)...)
	long := ask(api.AskCancel, math.MinInt) // a line of 28 bytes
	isNotPrinted(t, api.ErrLong, slices.Repeat([]api.Act{long}, api.MaxScript/28+1)...)
	prints(t, strings.Repeat("cancel -9223372036854775808\n", api.MaxScript/28), slices.Repeat([]api.Act{long}, api.MaxScript/28)...)
	isNotPrinted(t, api.ErrType, append(slices.Repeat([]api.Act{long}, api.MaxScript/28+1), none)...)
	isNotPrinted(t, api.ErrType, append([]api.Act{none}, slices.Repeat([]api.Act{long}, api.MaxScript/28+1)...)...)
}

// Promise 20.2: texts of just MaxScript bytes, and of one more, of many acts and of one.
func TestPrintOfLongTexts(t *testing.T) {
	for _, n := range []int{1, 2, 500} {
		acts := slices.Repeat([]api.Act{ask(api.AskStatus, 1)}, n-1)
		last := ask(api.AskRestock, 0)
		left := api.MaxScript - 9*(n-1) - len("restock\n")
		for ; left >= 6+6; left -= 6 {
			last.Ask.Lines = append(last.Ask.Lines, line(1, 1, 1, 0))
		}
		last.Ask.Lines = append(last.Ask.Lines, line(1, 1, int64(math.Pow10(left-6)), 0))
		s, why := front.Print(append(slices.Clone(acts), last))
		if len(s) != api.MaxScript || why != api.OK {
			t.Fatal("Print:", len(s), "bytes, error", why)
		}
		if l, why, _ := front.Parse(s); !same(l, append(slices.Clone(acts), last)) || why != api.OK {
			t.Error("Parse of Print: error", why)
		}
		last.Ask.Lines[0].Ware = 10
		isNotPrinted(t, api.ErrLong, append(slices.Clone(acts), last)...)
	}
	isNotPrinted(t, api.ErrLong, ask(api.AskCheckout, 1, make([]api.Line, 1<<18)...))
	isNotPrinted(t, api.ErrLong, slices.Repeat([]api.Act{ask(api.AskCheckout, 1, make([]api.Line, 1<<16)...)}, api.MaxCommands)...)
	prints(t, "free 0 0\n", ask(api.AskFree, 1, make([]api.Line, 1<<18)...))
	prints(t, "cancel 1\n", ask(api.AskCancel, 1, make([]api.Line, 1<<18)...))
}

// Promises 20.1 and 20.8: Plain of every kind, and of what is none, with something in all fields; it is its own plain form.
func TestPlain(t *testing.T) {
	lists := [][]api.Line{nil, {}, {line(1, 2, 3, 4)}, {line(1, 2, 3, 4), line(-5, -6, -7, -8)}}
	for n := range 256 {
		for _, pumps := range []bool{false, true} {
			for _, lines := range lists {
				for _, mark := range []string{"", "m", "No Mark"} {
					a := api.Act{Pump: pumps, Pick: -7, Verdict: api.Verdict(255 - n), Ask: api.Ask{Mark: mark, Kind: api.AskKind(n), Order: 9, Lines: lines}}
					p := front.Plain(a)
					if !sameAct(p, plain(a)) {
						t.Fatalf("Plain of %+v: %+v", a, p)
					}
					if !sameAct(front.Plain(p), p) {
						t.Fatalf("Plain of Plain of %+v: %+v", a, front.Plain(p))
					}
				}
			}
		}
	}
	great := ask(api.AskCheckout, 1, make([]api.Line, api.MaxScript+1)...)
	if len(front.Plain(great).Ask.Lines) != api.MaxScript+1 {
		t.Error("Plain of a checkout is not whole")
	}
}

// Promises 20.2 and 20.6: acts at random: Parse of Print is the plain forms, and the text is that of the table; or one has no line.
func TestParseOfPrint(t *testing.T) {
	r := rand.New(rand.NewPCG(20, 2))
	read, none := 0, 0
	for range 5000 {
		var acts, plains []api.Act
		text, is := "", true
		for range r.IntN(12) {
			a := anyAct(r)
			s, has := textOf(a)
			acts, plains = append(acts, a), append(plains, plain(a))
			text, is = text+s, is && has
		}
		if !is {
			none++
			isNotPrinted(t, api.ErrType, acts...)
			continue
		}
		read++
		prints(t, text, acts...)
		prints(t, text, plains...)
		reads(t, text, plains...)
	}
	if read < 500 || none < 500 {
		t.Error("read:", read, "none:", none)
	}
}

// Promise 20.5: what is handed in is neither changed nor kept; answers may be changed.
func TestNewMemory(t *testing.T) {
	for _, kind := range append(kinds(), api.AskNone) {
		lines := append(make([]api.Line, 0, 9), line(1, 2, 3, 4), line(5, 6, 7, 8))
		a := marked("m", ask(kind, 3, lines...))
		a.Ask.Lines = lines
		one, two := front.Plain(a), front.Plain(a)
		want := plain(marked("m", ask(kind, 3, line(1, 2, 3, 4), line(5, 6, 7, 8))))
		clear(one.Ask.Lines[:cap(one.Ask.Lines)])
		if !slices.Equal(lines, []api.Line{line(1, 2, 3, 4), line(5, 6, 7, 8)}) {
			t.Error("Plain answers what was handed in")
		}
		clear(lines[:cap(lines)])
		if !sameAct(two, want) {
			t.Error("Plain keeps what was handed in:", two)
		}
	}
	text := "checkout 1 1 1 2 300 2 1 2 300\nas m restock 1 1 5\nfree 1 1\n"
	one, why, _ := front.Parse(text)
	must(t, why)
	two, why, _ := front.Parse(text)
	must(t, why)
	for _, a := range one {
		_ = append(a.Ask.Lines, line(7, 7, 7, 7))
	}
	if !same(one, two) {
		t.Error("lists of Parse share memory")
	}
	s, why := front.Print(one)
	must(t, why)
	if !same(one, two) || s != text {
		t.Errorf("Print changes what was handed in, or: %q", s)
	}
	for _, a := range one {
		clear(a.Ask.Lines[:cap(a.Ask.Lines)])
	}
	clear(one)
	if s, why := front.Print(two); s != text || why != api.OK {
		t.Errorf("Parse answers what it has answered: %q, error %d", s, why)
	}
}

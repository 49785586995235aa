package front_test

import (
	"fmt"
	"math"
	"math/rand/v2"
	"slices"
	"strings"
	"testing"

	"lading/api"
)

func must(t *testing.T, why api.Errno) {
	t.Helper()
	if why != api.OK {
		t.Fatal("error", why)
	}
}

func line(item, ware int, qty, unit int64) api.Line {
	return api.Line{Item: item, Ware: ware, Qty: qty, Unit: unit}
}

func ask(kind api.AskKind, order int, lines ...api.Line) api.Act {
	return api.Act{Ask: api.Ask{Kind: kind, Order: order, Lines: lines}}
}

func marked(mark string, a api.Act) api.Act {
	a.Ask.Mark = mark
	return a
}

func pump(pick int, v api.Verdict) api.Act {
	return api.Act{Pump: true, Pick: pick, Verdict: v}
}

func sameAct(a, b api.Act) bool {
	return a.Pump == b.Pump && a.Pick == b.Pick && a.Verdict == b.Verdict &&
		a.Ask.Mark == b.Ask.Mark && a.Ask.Kind == b.Ask.Kind && a.Ask.Order == b.Ask.Order && slices.Equal(a.Ask.Lines, b.Ask.Lines)
}

// same tells whether acts are the same, nil and empty lists being alike.
func same(a, b []api.Act) bool { return slices.EqualFunc(a, b, sameAct) }

// kinds are those of requests.
func kinds() []api.AskKind {
	return []api.AskKind{api.AskCheckout, api.AskCancel, api.AskReturn, api.AskRestock, api.AskStatus, api.AskFree}
}

// written is an act and its line, without a mark and without LF.
type written struct {
	line string
	act  api.Act
}

// table has each line of the chapter's table, with ordinary numbers and with those at the ends.
func table() []written {
	const least, most = "-9223372036854775808", "9223372036854775807"
	return []written{
		{"checkout 1 1 1 2 300", ask(api.AskCheckout, 1, line(1, 1, 2, 300))},
		{"checkout 7 1 2 3 4 5 6 7 8 9 10 11 12", ask(api.AskCheckout, 7, line(1, 2, 3, 4), line(5, 6, 7, 8), line(9, 10, 11, 12))},
		{"checkout -1 0 -1 -2 -300", ask(api.AskCheckout, -1, line(0, -1, -2, -300))},
		{"checkout " + join(least, most, least, most, least), ask(api.AskCheckout, math.MinInt, line(math.MaxInt, math.MinInt, math.MaxInt64, math.MinInt64))},
		{"checkout 1" + strings.Repeat(" 2 3 4 5", 40), ask(api.AskCheckout, 1, slices.Repeat([]api.Line{line(2, 3, 4, 5)}, 40)...)},
		{"cancel 1", ask(api.AskCancel, 1)},
		{"cancel " + most, ask(api.AskCancel, math.MaxInt)},
		{"return 20", ask(api.AskReturn, 20)},
		{"return " + least, ask(api.AskReturn, math.MinInt)},
		{"status 0", ask(api.AskStatus, 0)},
		{"status -10", ask(api.AskStatus, -10)},
		{"restock 1 1 5", ask(api.AskRestock, 0, line(1, 1, 5, 0))},
		{"restock 1 2 3 4 5 6", ask(api.AskRestock, 0, line(1, 2, 3, 0), line(4, 5, 6, 0))},
		{"restock " + join(most, least, most), ask(api.AskRestock, 0, line(math.MaxInt, math.MinInt, math.MaxInt64, 0))},
		{"restock" + strings.Repeat(" 2 3 4", 40), ask(api.AskRestock, 0, slices.Repeat([]api.Line{line(2, 3, 4, 0)}, 40)...)},
		{"free 1 2", ask(api.AskFree, 0, line(1, 2, 0, 0))},
		{"free " + join(least, most), ask(api.AskFree, 0, line(math.MinInt, math.MaxInt, 0, 0))},
		{"pump 0 accept", pump(0, api.VerdictAccept)},
		{"pump -1 reject", pump(-1, api.VerdictReject)},
		{"pump " + least + " accept", pump(math.MinInt, api.VerdictAccept)},
		{"pump " + most + " reject", pump(math.MaxInt, api.VerdictReject)},
	}
}

func join(words ...string) string { return strings.Join(words, " ") }

// marks are words of marks, the longest one among them.
func marks() []string {
	return []string{"m", "a", "z", "0", "9", "-", "--", "as", "pump", "cancel", "-1", "abc-xyz-0189", strings.Repeat("q", api.MaxMark)}
}

// noMarks are words that are none of marks.
func noMarks() []string {
	l := []string{strings.Repeat("q", api.MaxMark+1), "aA", "é", "a_b", "a\x00", "\xff", "a.b"}
	for c := range 256 {
		if !strings.ContainsRune("abcdefghijklmnopqrstuvwxyz0123456789-", rune(c)) {
			l = append(l, string([]byte{byte(c)}), string([]byte{'a', byte(c)}))
		}
	}
	return l
}

// anyNumber is a random number, mostly a small one.
func anyNumber(r *rand.Rand) int64 {
	switch r.IntN(8) {
	case 0:
		return int64(r.Uint64())
	case 1:
		return []int64{math.MinInt64, math.MaxInt64, -1, 0}[r.IntN(4)]
	}
	return r.Int64N(9)
}

func anyLines(r *rand.Rand) []api.Line {
	var l []api.Line
	for range r.IntN(4) {
		l = append(l, line(int(anyNumber(r)), int(anyNumber(r)), anyNumber(r), anyNumber(r)))
	}
	return l
}

// anyAct is a random act, with something in all fields; mostly one that has a line.
func anyAct(r *rand.Rand) api.Act {
	a := api.Act{Pump: r.IntN(4) == 0, Pick: int(anyNumber(r)), Verdict: api.Verdict(r.IntN(2))}
	a.Ask = api.Ask{Kind: kinds()[r.IntN(6)], Order: int(anyNumber(r)), Lines: anyLines(r)}
	if r.IntN(3) == 0 {
		a.Ask.Mark = marks()[r.IntN(len(marks()))]
	}
	switch r.IntN(30) {
	case 0:
		a.Ask.Kind = api.AskKind(r.Uint32())
	case 1:
		a.Verdict = api.Verdict(r.Uint32())
	case 2:
		a.Ask.Mark = noMarks()[r.IntN(len(noMarks()))]
	}
	return a
}

// plain is an act's plain form, as the chapter has it.
func plain(a api.Act) api.Act {
	if a.Pump {
		return pump(a.Pick, a.Verdict)
	}
	p := api.Act{Ask: api.Ask{Mark: a.Ask.Mark, Kind: a.Ask.Kind}}
	switch a.Ask.Kind {
	case api.AskCheckout:
		p.Ask.Order = a.Ask.Order
		p.Ask.Lines = slices.Clone(a.Ask.Lines)
	case api.AskCancel, api.AskReturn, api.AskStatus:
		p.Ask.Order = a.Ask.Order
	case api.AskRestock:
		for _, x := range a.Ask.Lines {
			p.Ask.Lines = append(p.Ask.Lines, line(x.Item, x.Ware, x.Qty, 0))
		}
	case api.AskFree:
		for _, x := range a.Ask.Lines[:min(1, len(a.Ask.Lines))] {
			p.Ask.Lines = append(p.Ask.Lines, line(x.Item, x.Ware, 0, 0))
		}
	default:
		return a
	}
	return p
}

// textOf is the line of an act, as the chapter has it, if it has one.
func textOf(a api.Act) (string, bool) {
	a = plain(a)
	if a.Pump {
		if a.Verdict > api.VerdictReject {
			return "", false
		}
		return fmt.Sprintf("pump %d %s\n", a.Pick, []string{"accept", "reject"}[a.Verdict]), true
	}
	s := ""
	switch {
	case a.Ask.Mark == "":
	case len(a.Ask.Mark) > api.MaxMark || strings.Trim(a.Ask.Mark, "abcdefghijklmnopqrstuvwxyz0123456789-") != "":
		return "", false
	default:
		s = "as " + a.Ask.Mark + " "
	}
	switch a.Ask.Kind {
	case api.AskCheckout:
		s += fmt.Sprint("checkout ", a.Ask.Order)
	case api.AskCancel:
		return s + fmt.Sprintln("cancel", a.Ask.Order), true
	case api.AskReturn:
		return s + fmt.Sprintln("return", a.Ask.Order), true
	case api.AskStatus:
		return s + fmt.Sprintln("status", a.Ask.Order), true
	case api.AskRestock:
		s += "restock"
	case api.AskFree:
		s += "free"
	default:
		return "", false
	}
	for _, x := range a.Ask.Lines {
		s += fmt.Sprintf(" %d %d", x.Item, x.Ware)
		if a.Ask.Kind != api.AskFree {
			s += fmt.Sprintf(" %d", x.Qty)
		}
		if a.Ask.Kind == api.AskCheckout {
			s += fmt.Sprintf(" %d", x.Unit)
		}
	}
	return s + "\n", len(a.Ask.Lines) > 0
}

package front_test

import (
	"fmt"
	"math"
	"math/rand/v2"
	"strings"
	"testing"

	"lading/api"
	"lading/desk"
	"lading/disk"
	"lading/front"
	"lading/money"
)

// runs tells what comes of a text.
func runs(t *testing.T, text string, sectors, journal, limit int, want ...string) {
	t.Helper()
	all := ""
	for _, line := range want {
		all += line + "\n"
	}
	for range 2 { // it is the same once more
		if s, why, at := front.Run(text, sectors, journal, limit); s != all || why != api.OK || at != 0 {
			t.Fatalf("Run(%.80q): %q, error %d, line %d\nand not %q", text, s, why, at, all)
		}
	}
}

// Example of chapter 20.
func TestExample(t *testing.T) {
	runs(t, "restock 1 1 5\ncheckout 1 1 1 2 300\npump 0 accept\n", 120, 4, 9,
		"reply ok none 0.00", "reply ok open 6.00", "told 1 checkout reserve ok on", "order 1 open 6.00")
}

// Promise 20.4: nothing comes of nothing.
func TestRunOfNothing(t *testing.T) {
	runs(t, "", 120, 4, 9)
	runs(t, "", 38, 4, 0)
}

// Promises 20.4 and 20.7: what comes of every kind of act, done and refused; orders rise, whichever came first.
func TestRunOfEveryKind(t *testing.T) {
	text := `pump 0 accept
as stock-1 restock 1 1 5 2 1 1
as stock-1 restock 1 1 5 2 1 1
free 1 1
free 0 1
status 7
as a checkout 7 1 1 2 300
checkout 7 1 1 2 300
as b checkout 3 1 1 1 1 2 1 2 100
as a cancel 7
pump 0 accept
pump -1 reject
pump 0 accept
pump 0 reject
pump 0 accept
pump 0 accept
pump 0 accept
pump 0 accept
pump 5 accept
return 7
status 7
pump 0 accept
pump 0 accept
pump 0 reject
pump 0 accept
checkout 12 1 1 1 5
pump 0 accept
cancel 12
status 12
pump 0 accept
cancel 12
checkout 13 1 1 1 1099511627777
restock 1 1 0
checkout 14 1 1 1 5
checkout 15 1 1 1 5
`
	runs(t, text, 200, 4, 4,
		"error unknown",
		"reply ok none 0.00",
		"reply ok none 0.00",
		"reply ok none 0.05",
		"reply range none 0.00",
		"reply unknown none 0.00",
		"reply ok open 6.00",
		"reply twice none 0.00",
		"reply ok open 2.01",
		"reply ok open 6.00",
		"told 7 checkout reserve ok on",
		"told 3 checkout reserve stock over",
		"told 7 checkout authorise ok on",
		"told 7 checkout book conflict on",
		"told 7 checkout void ok on",
		"told 7 checkout release ok over",
		"error unknown",
		"error unknown",
		"error unknown",
		"reply state none 0.00",
		"reply ok rejected 6.00",
		"error unknown",
		"error unknown",
		"error unknown",
		"error unknown",
		"reply ok open 0.05",
		"told 12 checkout reserve ok on",
		"reply ok cancelling 0.05",
		"reply ok cancelling 0.05",
		"told 12 cancel release ok over",
		"reply state none 0.00",
		"reply range none 0.00",
		"reply range none 0.00",
		"reply ok open 0.05",
		"reply full none 0.00",
		"order 3 rejected 2.01",
		"order 7 rejected 6.00",
		"order 12 cancelled 0.05",
		"order 14 open 0.05")
}

// Promise 20.4, examples 1, 2, 3 and 4 of the whole: from the first step to the last.
func TestRunToTheEnd(t *testing.T) {
	begin := "restock 1 1 5\ncheckout 1 1 1 2 300\n"
	began := []string{"reply ok none 0.00", "reply ok open 6.00"}
	forward := []string{"told 1 checkout reserve ok on", "told 1 checkout authorise ok on", "told 1 checkout book ok on", "told 1 checkout capture ok on", "told 1 checkout send ok over"}
	on := "pump 0 accept\n"
	check := func(text string, want ...string) {
		t.Helper()
		runs(t, begin+text, 120, 4, 9, append(began[:2:2], want...)...)
	}
	check(strings.Repeat(on, 5)+"free 1 1\n", append(forward[:5:5], "reply ok none 0.03", "order 1 fulfilled 6.00")...)
	check(strings.Repeat(on, 4)+"pump 0 reject\n"+strings.Repeat(on, 4)+"free 1 1\n", append(forward[:4:4], "told 1 checkout send conflict on", "told 1 checkout refund ok on", "told 1 checkout unbook ok on", "told 1 checkout void ok on", "told 1 checkout release ok over", "reply ok none 0.05", "order 1 rejected 6.00")...)
	check(on+on+"cancel 1\n"+on+on, append(forward[:2:2], "reply ok cancelling 6.00", "told 1 cancel void ok on", "told 1 cancel release ok over", "order 1 cancelled 6.00")...)
	check(strings.Repeat(on, 5)+"return 1\n"+on+on+"pump 0 reject\n"+on+"status 1\n", append(forward[:5:5], "reply ok returning 6.00", "told 1 return label ok on", "told 1 return receive ok on", "told 1 return refund conflict on", "told 1 return refund ok over", "reply ok returned 6.00", "order 1 returned 6.00")...)
	check("cancel 1\n", "reply ok cancelled 6.00", "order 1 cancelled 6.00")
}

// Promise 20.4: Parse's error and line ahead of all else; then the error of desk.Format, and 0.
func TestRunRefused(t *testing.T) {
	for _, c := range []struct {
		text                    string
		sectors, journal, limit int
		want                    api.Errno
		line                    int
	}{
		{"cancel 1\nno line\n", 0, 0, -1, api.ErrSyntax, 2},
		{"cancel 1", 120, 4, 9, api.ErrSyntax, 1},
		{strings.Repeat("x", api.MaxScript+1), 0, 0, -1, api.ErrLong, 0},
		{strings.Repeat("cancel 1\n", api.MaxCommands+1), 0, 0, -1, api.ErrMany, api.MaxCommands + 1},
		{"cancel 1\n", 0, 0, -1, api.ErrNil, 0},
		{"", 0, 4, 9, api.ErrNil, 0},
		{"", -1, 4, 9, api.ErrNil, 0},
		{"", api.MaxSectors + 1, 4, 9, api.ErrNil, 0},
		{"", math.MinInt, math.MinInt, math.MinInt, api.ErrNil, 0},
		{"", math.MaxInt, math.MaxInt, math.MaxInt, api.ErrNil, 0},
		{"", 120, 3, 9, api.ErrRange, 0},
		{"", 120, math.MaxInt, 9, api.ErrRange, 0},
		{"", 120, 4, -1, api.ErrRange, 0},
		{"", 120, 4, api.MaxOrders + 1, api.ErrRange, 0},
		{"cancel 1\n", 37, 4, 9, api.ErrRange, 0},
		{"cancel 1\n", 120, 87, 9, api.ErrRange, 0},
		{"cancel 1\n", 1, 4, 9, api.ErrRange, 0},
	} {
		if s, why, at := front.Run(c.text, c.sectors, c.journal, c.limit); s != "" || why != c.want || at != c.line {
			t.Errorf("Run(%.20q, %d, %d, %d): %.20q, error %d, line %d, and not error %d, line %d", c.text, c.sectors, c.journal, c.limit, s, why, at, c.want, c.line)
		}
	}
	runs(t, "", 120, 86, 9)
	runs(t, "", api.MaxSectors, 4, api.MaxOrders)
}

// Promise 20.4, rule P9: disks that are too small for all that is asked: what there is no room for is refused, and the rest comes to its end.
func TestRunOnSmallDisks(t *testing.T) {
	text := "restock 1 1 9\n"
	for id := 1; id <= 5; id++ {
		text += fmt.Sprintf("checkout %d 1 1 1 100\n", id)
	}
	text += strings.Repeat("pump 0 accept\n", 25)
	for sectors := 38; sectors <= 160; sectors++ {
		room := (sectors-6-16)/4 - 2
		taken := min(room/6, 5)
		want := []string{"reply ok none 0.00"}
		for id := 1; id <= 5; id++ {
			if id <= taken {
				want = append(want, "reply ok open 1.00")
			} else {
				want = append(want, "reply full none 0.00")
			}
		}
		for id := 1; id <= taken; id++ {
			for _, step := range []string{"reserve ok on", "authorise ok on", "book ok on", "capture ok on", "send ok over"} {
				want = append(want, fmt.Sprintf("told %d checkout %s", id, step))
			}
		}
		for range 25 - 5*taken {
			want = append(want, "error unknown")
		}
		for id := 1; id <= taken; id++ {
			want = append(want, fmt.Sprintf("order %d fulfilled 1.00", id))
		}
		runs(t, text, sectors, 4, 9, want...)
	}
}

// fewAct is a random act of few orders and cells.
func fewAct(r *rand.Rand) api.Act {
	a := api.Act{Pump: r.IntN(2) == 0, Pick: r.IntN(20) - 10, Verdict: api.Verdict(r.IntN(8) / 7)}
	a.Ask = api.Ask{Kind: kinds()[r.IntN(6)], Order: r.IntN(15)}
	for range r.IntN(3) + 1 {
		a.Ask.Lines = append(a.Ask.Lines, line(r.IntN(3), r.IntN(2)+1, r.Int64N(6), r.Int64N(500)))
	}
	if r.IntN(4) == 0 {
		a.Ask.Mark = fmt.Sprint("m-", r.IntN(20))
	}
	return a
}

// byDesk is what comes of acts on a disk of their own, told by the words of the chapter.
func byDesk(t *testing.T, acts []api.Act, sectors, journal, limit int) (string, int) {
	t.Helper()
	d := disk.New(sectors)
	must(t, desk.Format(d, journal, limit))
	k, why := desk.Open(d)
	must(t, why)
	text := ""
	for _, a := range acts {
		reply, told, why := k.Do(a)
		switch {
		case why != api.OK:
			text += "error " + at(errorNames, 0, int(why))
		case a.Pump:
			end := "on"
			if told.Over {
				end = "over"
			}
			text += fmt.Sprintf("told %d %s %s %s %s", told.Order, at(kindNames, 1, int(told.Kind)), at(stepNames, 1, int(told.Step)), at(errorNames, 0, int(told.Why)), end)
		default:
			text += join("reply", at(errorNames, 0, int(reply.Why)), at(statusNames, 0, int(reply.Status)), money.Text(reply.Amount))
		}
		text += "\n"
	}
	for _, o := range k.State().Orders {
		text += fmt.Sprintf("order %d %s %s\n", o.Id, at(statusNames, 0, int(o.Status)), money.Text(o.Price))
	}
	return text, len(k.State().Orders)
}

// Promises 20.4, 20.7 and 20.8: what is printed of acts runs as their plain forms do, on disks of several sizes; it has as many lines as there are acts and orders.
func TestRunOfPrint(t *testing.T) {
	for seed := range uint64(60) {
		r := rand.New(rand.NewPCG(seed, 20))
		sectors, journal, limit := []int{38, 60, 120, 300, 1024}[seed%5], 4+int(seed%3), r.IntN(16)
		if sectors == 38 {
			journal = 4
		}
		var acts, plains []api.Act
		for range r.IntN(120) {
			a := fewAct(r)
			acts, plains = append(acts, a), append(plains, front.Plain(a))
		}
		text, why := front.Print(acts)
		must(t, why)
		want, orders := byDesk(t, plains, sectors, journal, limit)
		s, why, at := front.Run(text, sectors, journal, limit)
		if s != want || why != api.OK || at != 0 {
			t.Fatalf("Run: %q, error %d, line %d\nand not %q", s, why, at, want)
		}
		if n := strings.Count(s, "\n"); n != len(acts)+orders {
			t.Fatal("lines:", n, "acts:", len(acts), "orders:", orders)
		}
	}
}

// Promise 20.8: an act and its plain form do the same, where what its line has not is no matter to the service (a restock's prices and a second line of free are: those it refuses).
func TestPlainDoesTheSame(t *testing.T) {
	for seed := range uint64(30) {
		r := rand.New(rand.NewPCG(seed, 21))
		var acts, plains []api.Act
		for range 80 {
			a := fewAct(r)
			for i := range a.Ask.Lines {
				if a.Ask.Kind == api.AskRestock {
					a.Ask.Lines[i].Unit = 0
				}
			}
			if a.Ask.Kind == api.AskFree {
				a.Ask.Lines = a.Ask.Lines[:1]
			}
			acts, plains = append(acts, a), append(plains, front.Plain(a))
		}
		one, _ := byDesk(t, acts, 300, 4, 9)
		two, _ := byDesk(t, plains, 300, 4, 9)
		if one != two {
			t.Fatalf("%q\nand not %q", two, one)
		}
	}
}

// Promise 20.7: the greatest text runs, line for line.
func TestRunOfMostLines(t *testing.T) {
	text := "restock 1 1 9\n" + strings.Repeat("free 1 1\n", api.MaxCommands-2) + "checkout 1 1 1 1 1\n"
	s, why, at := front.Run(text, 120, 4, 9)
	if n := strings.Count(s, "\n"); n != api.MaxCommands+1 || why != api.OK || at != 0 {
		t.Error("Run:", n, "lines, error", why, at)
	}
}

package front

import (
	"slices"

	"lading/api"
)

// Words that are no request's.
const (
	pumpWord   = "pump"
	asWord     = "as"
	acceptWord = "accept"
	rejectWord = "reject"
)

// form is how the text of a request is: its word, perhaps an order's number, and then the numbers of lines, of which there is one at least, if they have any numbers.
type form struct {
	word   string
	order  bool
	width  int  // how many numbers a line has: the first ones of Item, Ware, Qty, Unit
	single bool // there is no more than one line
}

// forms are those of all requests.
func forms() map[api.AskKind]form {
	return map[api.AskKind]form{
		api.AskCheckout: {word: "checkout", order: true, width: 4},
		api.AskCancel:   {word: "cancel", order: true},
		api.AskReturn:   {word: "return", order: true},
		api.AskRestock:  {word: "restock", width: 3},
		api.AskStatus:   {word: "status", order: true},
		api.AskFree:     {word: "free", width: 2, single: true},
	}
}

// Plain is an act without what its text has not.
func Plain(a api.Act) api.Act {
	if a.Pump {
		return api.Act{Pump: true, Pick: a.Pick, Verdict: a.Verdict}
	}
	f, is := forms()[a.Ask.Kind]
	if !is {
		a.Ask.Lines = slices.Clone(a.Ask.Lines)
		return a
	}
	plain := api.Ask{Mark: a.Ask.Mark, Kind: a.Ask.Kind, Lines: f.lines(a.Ask.Lines)}
	if f.order {
		plain.Order = a.Ask.Order
	}
	return api.Act{Ask: plain}
}

// lines are those that the text has, with the numbers that it has of them.
func (f form) lines(l []api.Line) []api.Line {
	if f.width == 0 {
		return nil
	}
	if f.single {
		l = l[:min(len(l), 1)]
	}
	var plain []api.Line
	for _, x := range l {
		plain = append(plain, lineOf(numbersOf(x)[:f.width]...))
	}
	return plain
}

// takes tells whether so many numbers are those of lines.
func (f form) takes(numbers int) bool {
	if f.width == 0 || f.single {
		return numbers == f.width
	}
	return numbers > 0 && numbers%f.width == 0
}

// numbersOf are those of a line, in the order in which a text has them.
func numbersOf(x api.Line) []int64 {
	return []int64{int64(x.Item), int64(x.Ware), x.Qty, x.Unit}
}

// lineOf is the line of numbers, of which the last ones may be left out.
func lineOf(numbers ...int64) api.Line {
	var all [4]int64
	copy(all[:], numbers)
	return api.Line{Item: int(all[0]), Ware: int(all[1]), Qty: all[2], Unit: all[3]}
}

// isMark tells whether a word is that of a mark.
func isMark(w string) bool {
	if w == "" || len(w) > api.MaxMark {
		return false
	}
	for _, c := range []byte(w) {
		if !(c >= 'a' && c <= 'z' || c >= '0' && c <= '9' || c == '-') {
			return false
		}
	}
	return true
}

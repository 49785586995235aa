package front

import (
	"strconv"
	"strings"

	"lading/api"
	"lading/money"
)

// Words in the order of the numbers that they are for.
const (
	errorWords  = "ok nil range many long over code full down state conflict unknown twice stock syntax type"
	statusWords = "none open rejected fulfilled cancelling cancelled returning returned"
	kindWords   = "checkout cancel return"
	stepWords   = "reserve authorise book capture send release void unbook refund label receive"
)

// Name is an error's.
func Name(e api.Errno) string { return word(errorWords, int(e)) }

// Reply is what comes of a request.
func Reply(r api.Reply) string {
	return join("reply", Name(r.Why), statusWord(r.Status), money.Text(r.Amount))
}

// Told is what comes of a pump.
func Told(t api.Told) string {
	kind := word(kindWords, int(t.Kind)-int(api.SagaCheckout))
	step := word(stepWords, int(t.Step)-int(api.StepReserve))
	end := "on"
	if t.Over {
		end = "over"
	}
	return join("told", number(t.Order), kind, step, Name(t.Why), end)
}

func statusWord(s api.Status) string { return word(statusWords, int(s)) }

// word is the one at a place, from 0 on.
func word(words string, at int) string {
	l := strings.Split(words, " ")
	if at < 0 || at >= len(l) {
		return "?"
	}
	return l[at]
}

func number(n int) string { return strconv.Itoa(n) }

// join puts any number of words together.
func join(words ...string) string { return strings.Join(words, " ") }

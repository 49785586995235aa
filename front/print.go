package front

import (
	"slices"
	"strconv"
	"strings"

	"lading/api"
)

// Print writes acts, line by line.
func Print(l []api.Act) (string, api.Errno) {
	if len(l) > api.MaxCommands {
		return "", api.ErrMany
	}
	if slices.ContainsFunc(l, hasNoLine) {
		return "", api.ErrType
	}
	var text strings.Builder
	for _, a := range l {
		text.WriteString(printed(Plain(a)) + "\n")
		if text.Len() > api.MaxScript {
			return "", api.ErrLong
		}
	}
	return text.String(), api.OK
}

// hasNoLine tells whether an act can't be written.
func hasNoLine(a api.Act) bool {
	if a.Pump {
		return a.Verdict >= api.VerdictCount
	}
	f, is := forms()[a.Ask.Kind]
	wrongMark := a.Ask.Mark != "" && !isMark(a.Ask.Mark)
	return !is || wrongMark || f.width > 0 && len(a.Ask.Lines) == 0
}

// printed is the line of a plain act that has one.
func printed(a api.Act) string {
	if a.Pump {
		verdict := acceptWord
		if a.Verdict == api.VerdictReject {
			verdict = rejectWord
		}
		return join(pumpWord, number(a.Pick), verdict)
	}
	f := forms()[a.Ask.Kind]
	words := []string{f.word}
	if a.Ask.Mark != "" {
		words = []string{asWord, a.Ask.Mark, f.word}
	}
	if f.order {
		words = append(words, number(a.Ask.Order))
	}
	for _, x := range a.Ask.Lines {
		for _, n := range numbersOf(x)[:f.width] {
			words = append(words, strconv.FormatInt(n, 10))
		}
	}
	return join(words...)
}

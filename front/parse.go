package front

import (
	"strconv"
	"strings"

	"lading/api"
)

// Parse reads acts, line by line; where one is none it tells the line's number.
func Parse(t string) ([]api.Act, api.Errno, int) {
	if len(t) > api.MaxScript {
		return nil, api.ErrLong, 0
	}
	var acts []api.Act
	for at := 1; t != ""; at++ {
		line, behind, ends := strings.Cut(t, "\n")
		act, is := readLine(line)
		if !is || !ends {
			return nil, api.ErrSyntax, at
		}
		if at > api.MaxCommands {
			return nil, api.ErrMany, at
		}
		acts = append(acts, act)
		t = behind
	}
	return acts, api.OK, 0
}

// readLine is the act of a line, if it is one.
func readLine(line string) (api.Act, bool) {
	words := strings.Split(line, " ")
	switch words[0] {
	case pumpWord:
		return readPump(words[1:])
	case asWord:
		if len(words) < 3 || !isMark(words[1]) {
			return api.Act{}, false
		}
		ask, is := readAsk(words[2:])
		ask.Mark = words[1]
		return api.Act{Ask: ask}, is
	}
	ask, is := readAsk(words)
	return api.Act{Ask: ask}, is
}

// readPump is the pump of the words behind its own.
func readPump(words []string) (api.Act, bool) {
	if len(words) != 2 {
		return api.Act{}, false
	}
	pick, is := readNumber(words[0])
	a := api.Act{Pump: true, Pick: int(pick)}
	switch words[1] {
	case acceptWord:
		a.Verdict = api.VerdictAccept
	case rejectWord:
		a.Verdict = api.VerdictReject
	default:
		is = false
	}
	return a, is
}

// readAsk is the request of words, of which there is one at least.
func readAsk(words []string) (api.Ask, bool) {
	kind, f, is := findForm(words[0])
	numbers, areNumbers := readNumbers(words[1:])
	if !is || !areNumbers {
		return api.Ask{}, false
	}
	a := api.Ask{Kind: kind}
	if f.order {
		if len(numbers) == 0 {
			return api.Ask{}, false
		}
		a.Order, numbers = int(numbers[0]), numbers[1:]
	}
	if !f.takes(len(numbers)) {
		return api.Ask{}, false
	}
	for len(numbers) > 0 {
		a.Lines = append(a.Lines, lineOf(numbers[:f.width]...))
		numbers = numbers[f.width:]
	}
	return a, true
}

// findForm is the form that has a word, and whose it is.
func findForm(word string) (api.AskKind, form, bool) {
	for kind, f := range forms() {
		if f.word == word { // that of no other form
			return kind, f, true
		}
	}
	return api.AskNone, form{}, false
}

func readNumbers(words []string) ([]int64, bool) {
	var l []int64
	for _, w := range words {
		n, is := readNumber(w)
		if !is {
			return nil, false
		}
		l = append(l, n)
	}
	return l, true
}

// readNumber is the number of a word that is just as the number is written.
func readNumber(w string) (int64, bool) {
	n, err := strconv.ParseInt(w, 10, 64)
	return n, err == nil && strconv.FormatInt(n, 10) == w
}

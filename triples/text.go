package triples

import (
	"strings"

	"legation/api"
	"legation/term"
)

const (
	between = " "   // behind each term
	ending  = ".\n" // behind each triple
)

// Text tells a right triple's text.
func Text(t api.Triple) (string, api.Errno) {
	if e := Check(t); e != api.OK {
		return "", e
	}
	text := ""
	for _, x := range terms(t) {
		s, _ := term.Text(x) // a right triple's terms have a text each
		text += s + between
	}
	return text + ending, api.OK
}

// Write tells the text of right triples, a line each.
func Write(l []api.Triple) (string, api.Errno) {
	if len(l) > api.MaxTriples {
		return "", api.ErrLong
	}
	var text strings.Builder
	for _, t := range l {
		line, e := Text(t)
		if e != api.OK {
			return "", e
		}
		text.WriteString(line)
	}
	return text.String(), api.OK
}

// Read tells the right triples whose text s is; of another text the number of the first line that is no right triple's.
func Read(s string) ([]api.Triple, int, api.Errno) {
	var l []api.Triple
	rest, count := s, 0
	// A line's end is not looked for: a triple's text has no line feed but its last byte, so where one stands ahead it is the whole line.
lines:
	for ; rest != ""; count++ {
		line := rest
		var x [3]api.Term
		for i := range x {
			n := 0
			x[i], n = term.Prefix(line)
			if n == 0 || !strings.HasPrefix(line[n:], between) {
				break lines
			}
			line = line[n+len(between):]
		}
		t := api.Triple{S: x[0], P: x[1], O: x[2]}
		if !strings.HasPrefix(line, ending) || Check(t) != api.OK {
			break lines
		}
		rest = line[len(ending):]
		if count < api.MaxTriples { // lines beyond are read on just since one of them may be wrong
			l = append(l, t)
		}
	}
	switch {
	case rest != "":
		return nil, count + 1, api.ErrForm
	case count > api.MaxTriples:
		return nil, 0, api.ErrLong
	}
	return l, 0, api.OK
}

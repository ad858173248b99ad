package result_test

import (
	"regexp"
	"slices"
	"strconv"
	"strings"

	"legation/api"
)

// The tests' own reading of the chapter, by patterns of bytes.
const (
	plainIri  = `[!#-;=?-\[\]_a-z~]+`
	plainName = `[A-Za-z][A-Za-z0-9_]{0,31}`
)

var (
	plainReply = regexp.MustCompile(`^(0|[1-9][0-9]{0,3})\n(?:(true|false)|error ([1-9])|rows\n((?:[^\n]*\n)*)([^\n]*))\n$`)
	plainVars  = regexp.MustCompile(`^(\?` + plainName + `(\t\?` + plainName + `)*)?$`)
	plainCell  = regexp.MustCompile(`^(?:<(` + plainIri + `)>|_:(` + plainName + `)|"((?:[ !#-\[\]-~]|\\["\\nt])*)"(?:\^\^<(` + plainIri + `)>|@([a-z]{1,8}))?)?$`)
)

func plainText(x api.Term) string {
	switch x.Kind {
	case api.Iri:
		return "<" + x.Text + ">"
	case api.Blank:
		return "_:" + x.Text
	case api.Literal:
		s := `"` + strings.NewReplacer(`"`, `\"`, `\`, `\\`, "\n", `\n`, "\t", `\t`).Replace(x.Text) + `"`
		if x.Type != "" {
			s += "^^<" + x.Type + ">"
		}
		if x.Lang != "" {
			s += "@" + x.Lang
		}
		return s
	}
	return ""
}

// plainPut tells the bytes of a right reply, however many they are.
func plainPut(r api.Reply) string {
	b := strconv.Itoa(r.Id) + "\n"
	switch r.Kind {
	case api.RTruth:
		return b + map[bool]string{true: "true\n", false: "false\n"}[r.Truth]
	case api.RError:
		return b + "error " + strconv.Itoa(int(r.Err)) + "\n"
	}
	b += "rows\n"
	for i, v := range r.Table.Vars {
		b += strings.Repeat("\t", min(i, 1)) + "?" + v
	}
	rows := make([]string, len(r.Table.Rows))
	for i, row := range r.Table.Rows {
		for j, x := range row {
			rows[i] += strings.Repeat("\t", min(j, 1)) + plainText(x)
		}
	}
	return strings.Join(append([]string{b}, rows...), "\n") + "\n"
}

// plainGet tells the reply whose bytes are b, and whether there is one.
func plainGet(b string) (api.Reply, bool) {
	m := plainReply.FindStringSubmatch(b)
	if m == nil || len(b) > 1<<16 {
		return api.Reply{}, false
	}
	id, _ := strconv.Atoi(m[1])
	r := api.Reply{Id: id, Kind: api.RTable}
	switch {
	case id > 4095:
		return api.Reply{}, false
	case m[2] != "":
		r.Kind, r.Truth = api.RTruth, m[2] == "true"
	case m[3] != "":
		n, _ := strconv.Atoi(m[3])
		r.Kind, r.Err = api.RError, api.Errno(n)
	default:
		t, is := plainTable(strings.Split(m[4]+m[5], "\n"))
		if !is {
			return api.Reply{}, false
		}
		r.Table = t
	}
	return r, true
}

func plainTable(lines []string) (api.Table, bool) {
	var t api.Table
	if !plainVars.MatchString(lines[0]) || len(lines) > 1025 {
		return t, false
	}
	if lines[0] != "" {
		t.Vars = strings.Split(strings.ReplaceAll(lines[0], "?", ""), "\t")
	}
	sorted := slices.Clone(t.Vars)
	slices.Sort(sorted)
	if len(slices.Compact(sorted)) < len(t.Vars) || len(t.Vars) > 32 {
		return t, false
	}
	for _, s := range lines[1:] {
		var row []api.Term
		cells := strings.Split(s, "\t")
		if s == "" && len(t.Vars) == 0 {
			cells = nil
		}
		for _, c := range cells {
			x, is := plainTerm(c)
			if !is {
				return t, false
			}
			row = append(row, x)
		}
		if len(row) != len(t.Vars) {
			return t, false
		}
		t.Rows = append(t.Rows, row)
	}
	return t, true
}

func plainTerm(s string) (api.Term, bool) {
	m := plainCell.FindStringSubmatch(s)
	if m == nil || len(m[1]) > 4096 || len(m[4]) > 4096 {
		return api.Term{}, false
	}
	text := strings.NewReplacer(`\"`, `"`, `\\`, `\`, `\n`, "\n", `\t`, "\t").Replace(m[3])
	switch {
	case m[1] != "":
		return iri(m[1]), true
	case m[2] != "":
		return blank(m[2]), true
	case s != "":
		return api.Term{Kind: api.Literal, Text: text, Type: m[4], Lang: m[5]}, len(text) <= 4096
	}
	return api.Term{}, true
}

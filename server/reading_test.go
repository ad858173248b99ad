package server_test

import (
	"encoding/hex"
	"regexp"
	"strconv"
	"strings"

	"legation/api"
	"legation/engine"
	"legation/query"
	"legation/store"
)

// The tests' own reading of the chapter, and of what it leans on: requests and replies as bytes.

var (
	plainByte  = regexp.MustCompile(`^[A-Za-z0-9._~-]$`)
	plainBytes = regexp.MustCompile(`^id=(0|[1-9][0-9]{0,3})&query=((?:[A-Za-z0-9._~-]|%[0-9A-F][0-9A-F])*)$`)
	plainWrite = regexp.MustCompile(`%..`)
)

func plainEncode(s string) string {
	var b strings.Builder
	for _, c := range []byte(s) {
		x := string([]byte{c})
		if !plainByte.MatchString(x) {
			x = "%" + strings.ToUpper(hex.EncodeToString([]byte{c}))
		}
		b.WriteString(x)
	}
	return b.String()
}

func plainRequest(id int, text string) string {
	return "id=" + strconv.Itoa(id) + "&query=" + plainEncode(text)
}

// plainGet tells the Id and the text whose bytes are b, and whether there are any.
func plainGet(b string) (int, string, bool) {
	m := plainBytes.FindStringSubmatch(b)
	if m == nil {
		return 0, "", false
	}
	text := plainWrite.ReplaceAllStringFunc(m[2], func(w string) string {
		x, _ := hex.DecodeString(w[1:])
		return string(x)
	})
	id, _ := strconv.Atoi(m[1])
	return id, text, id <= 4095 && len(text) <= 4096 && plainEncode(text) == m[2]
}

func plainText(x api.Term) string {
	switch x.Kind {
	case api.Iri:
		return "<" + x.Text + ">"
	case api.Blank:
		return "_:" + x.Text
	case api.Literal:
		s := `"` + strings.NewReplacer(`"`, `\"`, `\`, `\\`, "\n", `\n`, "\t", `\t`).Replace(x.Text) + `"`
		if x.Type != "" {
			s += "^^<" + x.Type + ">"
		}
		if x.Lang != "" {
			s += "@" + x.Lang
		}
		return s
	}
	return ""
}

// plainPut tells the bytes of a right reply, however many they are.
func plainPut(r api.Reply) string {
	b := strconv.Itoa(r.Id) + "\n"
	switch r.Kind {
	case api.RTruth:
		return b + map[bool]string{true: "true\n", false: "false\n"}[r.Truth]
	case api.RError:
		return b + "error " + strconv.Itoa(int(r.Err)) + "\n"
	}
	b += "rows\n"
	for i, v := range r.Table.Vars {
		b += strings.Repeat("\t", min(i, 1)) + "?" + v
	}
	rows := make([]string, len(r.Table.Rows))
	for i, row := range r.Table.Rows {
		for j, x := range row {
			rows[i] += strings.Repeat("\t", min(j, 1)) + plainText(x)
		}
	}
	return strings.Join(append([]string{b}, rows...), "\n") + "\n"
}

// plainServe tells the reply to a right request.
func plainServe(s *store.Store, id int, text string) api.Reply {
	q, e := query.Parse(text)
	return plainReply(s, id, q, e)
}

// plainAnswer tells the reply to a query, right or not.
func plainAnswer(s *store.Store, id int, q api.Query) api.Reply {
	if id < 0 || id > 4095 {
		return api.Reply{}
	}
	return plainReply(s, id, q, query.Check(q))
}

func plainReply(s *store.Store, id int, q api.Query, read api.Errno) api.Reply {
	if read != api.OK {
		return failed(id, read)
	}
	for _, o := range q.Code {
		if o.Kind == api.OService {
			return failed(id, api.ErrFault)
		}
	}
	if s == nil {
		s = store.New()
	}
	a, e := engine.Run(engine.World{Base: s}, q)
	if e != api.OK {
		return failed(id, e)
	}
	if q.Ask {
		return truth(id, len(a.Rows) == 1)
	}
	if r := tabled(id, a); len(a.Rows) <= 1024 && len(plainPut(r)) <= 65536 {
		return r
	}
	return failed(id, api.ErrLong)
}

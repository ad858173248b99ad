package term

import "legation/api"

// Text tells a right term's text.
func Text(t api.Term) (string, api.Errno) {
	if !right(t) {
		return "", api.ErrForm
	}
	switch t.Kind {
	case api.Iri:
		return "<" + t.Text + ">", api.OK
	case api.Blank:
		return "_:" + t.Text, api.OK
	case api.Var:
		return "?" + t.Text, api.OK
	case api.Literal:
		return quote(t.Text) + tag(t), api.OK
	}
	return "", api.OK
}

func tag(t api.Term) string {
	switch {
	case t.Type != "":
		return "^^<" + t.Type + ">"
	case t.Lang != "":
		return "@" + t.Lang
	}
	return ""
}

func quote(s string) string {
	b := make([]byte, 0, len(s)+2)
	b = append(b, '"')
	for _, r := range s {
		b = appendEscaped(b, r)
	}
	return string(append(b, '"'))
}

// appendEscaped takes none but a right literal's bytes, which no rune's cut to a byte can harm.
func appendEscaped(b []byte, r rune) []byte {
	switch r {
	case '\n':
		return append(b, '\\', 'n')
	case '\t':
		return append(b, '\\', 't')
	case '"', '\\':
		b = append(b, '\\')
		fallthrough
	default:
		return append(b, byte(r))
	}
}

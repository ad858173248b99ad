package request_test

import (
	"encoding/hex"
	"regexp"
	"strconv"
	"strings"

	"legation/api"
)

// The tests' own reading of the chapter, by patterns of bytes and the library's digits of base 16.
var (
	plainByte    = regexp.MustCompile(`^[A-Za-z0-9._~-]$`)
	plainRequest = regexp.MustCompile(`^id=(0|[1-9][0-9]{0,3})&query=((?:[A-Za-z0-9._~-]|%[0-9A-F][0-9A-F])*)$`)
	plainWrite   = regexp.MustCompile(`%..`)
)

func plainEncode(s string) string {
	var b strings.Builder
	for _, c := range []byte(s) {
		x := string([]byte{c})
		if !plainByte.MatchString(x) {
			x = "%" + strings.ToUpper(hex.EncodeToString([]byte{c}))
		}
		b.WriteString(x)
	}
	return b.String()
}

func plainPut(r api.Request) string {
	return "id=" + strconv.Itoa(r.Id) + "&query=" + plainEncode(r.Text)
}

// plainGet tells the request whose bytes are b, and whether there is one.
func plainGet(b string) (api.Request, bool) {
	m := plainRequest.FindStringSubmatch(b)
	if m == nil {
		return api.Request{}, false
	}
	text := plainWrite.ReplaceAllStringFunc(m[2], func(w string) string {
		x, _ := hex.DecodeString(w[1:])
		return string(x)
	})
	id, _ := strconv.Atoi(m[1])
	r := api.Request{Id: id, Text: text}
	if id > 4095 || len(text) > 4096 || plainEncode(text) != m[2] {
		return api.Request{}, false
	}
	return r, true
}

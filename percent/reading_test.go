package percent_test

import (
	"encoding/hex"
	"regexp"
	"strings"

	"legation/api"
)

// The tests' own reading of the chapter, by patterns of texts and the library's digits of base 16.
var (
	plainByte  = regexp.MustCompile(`^[A-Za-z0-9._~-]$`)
	plainTexts = regexp.MustCompile(`^([A-Za-z0-9._~-]|%[0-9A-F][0-9A-F])*$`)
	plainWrite = regexp.MustCompile(`%[0-9A-F][0-9A-F]`)
	plainPairs = regexp.MustCompile(`^[^&=]*=[^&=]*(&[^&=]*=[^&=]*)*$`)
)

func plainEncode(s string) string {
	var b strings.Builder
	for _, c := range []byte(s) {
		x := string([]byte{c})
		if !plainByte.MatchString(x) {
			x = "%" + strings.ToUpper(hex.EncodeToString([]byte{c}))
		}
		b.WriteString(x)
	}
	return b.String()
}

// plainDecode tells the text that, encoded, is s, and whether there is one.
func plainDecode(s string) (string, bool) {
	if !plainTexts.MatchString(s) {
		return "", false
	}
	x := plainWrite.ReplaceAllStringFunc(s, func(w string) string {
		b, _ := hex.DecodeString(w[1:])
		return string(b)
	})
	return x, plainEncode(x) == s
}

func plainPairing(l []api.Pair) string {
	var parts []string
	for _, p := range l {
		parts = append(parts, plainEncode(p.Key)+"="+plainEncode(p.Value))
	}
	return strings.Join(parts, "&")
}

func plainRead(s string) ([]api.Pair, api.Errno) {
	var l []api.Pair
	if s == "" {
		return l, api.OK
	}
	if !plainPairs.MatchString(s) {
		return nil, api.ErrForm
	}
	for _, part := range strings.Split(s, "&") {
		words := strings.Split(part, "=")
		key, is := plainDecode(words[0])
		value, too := plainDecode(words[1])
		if !is || !too {
			return nil, api.ErrForm
		}
		l = append(l, api.Pair{Key: key, Value: value})
	}
	if len(l) > 64 {
		return nil, api.ErrLong
	}
	return l, api.OK
}

package percent

import (
	"strings"

	"legation/api"
)

const (
	most    = 64  // pairs that one text may have
	between = "&" // two pairs
	equals  = "=" // between a pair's Key and its Value
)

// Write tells l, written.
func Write(l []api.Pair) (string, api.Errno) {
	if len(l) > most {
		return "", api.ErrLong
	}
	parts := make([]string, len(l))
	for i, p := range l {
		parts[i] = Encode(p.Key) + equals + Encode(p.Value)
	}
	return strings.Join(parts, between), api.OK
}

// Read tells the pairs of which s is written.
func Read(s string) ([]api.Pair, api.Errno) {
	if s == "" {
		return nil, api.OK
	}
	var l []api.Pair
	count := 0
	for more := true; more; count++ {
		var part string
		part, s, more = strings.Cut(s, between)
		p, e := pair(part)
		if e != api.OK {
			return nil, e
		}
		if count < most { // those beyond are read on just since one of them may be none
			l = append(l, p)
		}
	}
	if count > most {
		return nil, api.ErrLong
	}
	return l, api.OK
}

// pair tells the pair that s is written of.
func pair(s string) (api.Pair, api.Errno) {
	key, value, found := strings.Cut(s, equals)
	if !found {
		return api.Pair{}, api.ErrForm
	}
	k, e := Decode(key)
	if e != api.OK {
		return api.Pair{}, e
	}
	v, e := Decode(value) // a second = stands in it, and is not plain
	if e != api.OK {
		return api.Pair{}, e
	}
	return api.Pair{Key: k, Value: v}, api.OK
}

// Get tells the Value of the one pair in l with that key.
func Get(l []api.Pair, key string) (string, api.Errno) {
	value, found := "", 0
	for _, p := range l {
		if p.Key == key {
			value = p.Value
			found++
		}
	}
	if found != 1 {
		return "", api.ErrForm
	}
	return value, api.OK
}

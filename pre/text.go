package pre

import (
	"strconv"
	"strings"

	"whipcord/addr"
	"whipcord/api"
)

const slash = "/"

// Text returns the only text of p that Parse accepts.
func Text(p api.Prefix) (string, api.Errno) {
	if e := Check(p); e != api.OK {
		return "", e
	}
	s, e := addr.Text(p.Addr)
	if e != api.OK {
		return "", e
	}
	return s + slash + strconv.Itoa(p.Len), api.OK
}

// Parse returns the prefix for which Text returns s.
func Parse(s string) (api.Prefix, api.Errno) {
	if len(s) > api.MaxText {
		return api.Prefix{}, api.ErrSize
	}
	p, ok := read(s)
	if !ok {
		return api.Prefix{}, api.ErrForm
	}
	// read accepts other notations of a length too, and prefixes that are not valid: Text alone decides what counts.
	if text, e := Text(p); e != api.OK || text != s {
		return api.Prefix{}, api.ErrForm
	}
	return p, api.OK
}

func read(s string) (api.Prefix, bool) {
	head, tail, _ := strings.Cut(s, slash)
	a, e := addr.Parse(head)
	if e != api.OK {
		return api.Prefix{}, false
	}
	n, err := strconv.Atoi(tail)
	if err != nil {
		return api.Prefix{}, false
	}
	return api.Prefix{Addr: a, Len: n}, true
}

package store

import (
	"strings"

	"escrow/api"
	"escrow/record"
)

// batch: the records' bytes, one behind the other. False: one of them isn't valid.
func batch(l []api.Record) (string, bool) {
	var all strings.Builder
	for _, r := range l {
		b, e := record.Write(r)
		if e != api.OK {
			return "", false
		}
		all.WriteString(b)
	}
	return all.String(), true
}

// applied: what a batch makes of a state. False: it isn't one, or one of its records can't stand there.
func applied(s api.State, b string) (api.State, bool) {
	if b == "" {
		return api.State{}, false
	}
	for b != "" {
		r, size, e := record.Read(b)
		if e != api.OK {
			return api.State{}, false
		}
		if s, e = record.Apply(s, r); e != api.OK {
			return api.State{}, false
		}
		b = b[size:]
	}
	return s, true
}

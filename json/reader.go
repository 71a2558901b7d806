package json

import (
	"strconv"
	"strings"

	"bracken/api"
)

// reader takes the values of a JSON form, one after another, from the beginning of a text.
// It reports no errors and passes over what is between the values: Parse compares the form of the result with the text,
// which finds every difference. So the names of the fields are written down only once, where they are printed.
type reader struct {
	rest string // what follows the values taken so far
}

// state takes all of a state.
func (r *reader) state() api.State {
	return api.State{
		Rev:    r.number(),
		Jobs:   readRows(r, r.job),
		Nodes:  readRows(r, r.node),
		Leases: readRows(r, r.lease),
	}
}

// readRows takes the rows of a table.
func readRows[T any](r *reader, readRow func() T) []T {
	var rows []T
	r.findValue()
	r.skip("[")
	// Every row takes at least its brace, so that there is an end.
	for strings.HasPrefix(r.rest, "{") {
		rows = append(rows, readRow())
		r.skip("}")
		r.skip(",")
	}
	return rows
}

// job takes a job.
func (r *reader) job() api.Job {
	return api.Job{Name: r.text(), Prio: r.number(), Need: r.number(), Tries: r.number(), Tag: r.text()}
}

// node takes a node.
func (r *reader) node() api.Node {
	return api.Node{Name: r.text(), Room: r.number(), Zone: r.text()}
}

// lease takes a lease.
func (r *reader) lease() api.Lease {
	return api.Lease{Job: r.text(), Node: r.text(), Until: r.number()}
}

// number takes a number.
func (r *reader) number() int {
	r.findValue()
	after := strings.TrimLeft(r.rest, "-0123456789")
	digits := strings.TrimSuffix(r.rest, after)
	r.rest = after
	// What is not a number, or exceeds an int, yields one that is printed otherwise.
	n, _ := strconv.Atoi(digits)
	return n
}

// text takes a quoted string.
func (r *reader) text() string {
	r.findValue()
	r.skip(`"`)
	// The bytes are copied one by one, so that no text is a part of another one.
	var text strings.Builder
	for r.rest != "" && r.rest[0] != '"' {
		text.WriteByte(r.character())
	}
	r.skip(`"`)
	return text.String()
}

// character takes a byte of a quoted string, which may be an escape, from a rest that is not empty.
func (r *reader) character() byte {
	value, size := r.rest[0], 1
	switch {
	case value == '\\' && len(r.rest) >= 6 && r.rest[1] == 'u':
		n, _ := strconv.ParseUint(r.rest[2:6], 16, 8)
		value, size = byte(n), 6
	case value == '\\' && len(r.rest) >= 2:
		value, size = r.rest[1], 2
	}
	r.rest = r.rest[size:]
	return value
}

// findValue goes on behind the next colon: outside of strings, each of them precedes a value.
func (r *reader) findValue() {
	_, r.rest, _ = strings.Cut(r.rest, ":")
}

// skip goes on behind a part if it is next.
func (r *reader) skip(part string) {
	r.rest = strings.TrimPrefix(r.rest, part)
}

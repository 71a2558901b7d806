package wire

import (
	"strings"

	"bracken/api"
	"bracken/prim"
)

// maxNumber is the largest number that is read: every int holds it, and the limits of the fields are far below.
const maxNumber = 1 << 62

// The versions from which on there are more fields.
const (
	withTries = 2
	withZone  = 2
	withRev   = 3
	withTag   = 3
)

// Coder passes fields one after another, from values to bytes or from bytes to values.
// Both directions share the functions below, so that the order of the fields is written down only once.
// It is exported because other encodings have parts that are encoded as those of a state.
type Coder struct {
	version int
	reading bool
	written strings.Builder // if it writes: the bytes so far
	rest    string          // if it reads: the bytes that are left
	e       api.Errno       // the first error
}

// Writer returns a coder that writes the fields that a version has.
func Writer(version int) *Coder {
	return &Coder{version: version}
}

// Reader returns a coder that reads the fields that a version has from the beginning of b.
func Reader(b string, version int) *Coder {
	return &Coder{version: version, reading: true, rest: b}
}

// Rows passes the rows of a table: size passes their number, row the fields of one of them.
// It returns the rows that were passed; list stays as it is, and is empty if the rows are read.
func Rows[T any](list []T, size func(int) int, row func(T) T) []T {
	var passed []T
	for i := range size(len(list)) {
		var r T
		if i < len(list) {
			r = list[i]
		}
		passed = append(passed, row(r))
	}
	return passed
}

// Job passes the fields of a job.
func (c *Coder) Job(j api.Job) api.Job {
	j.Name = c.Text(j.Name)
	j.Prio = c.signed(j.Prio)
	j.Need = c.Number(j.Need)
	if c.version >= withTries {
		j.Tries = c.Number(j.Tries)
	}
	if c.version >= withTag {
		j.Tag = c.Text(j.Tag)
	}
	return j
}

// Node passes the fields of a node.
func (c *Coder) Node(n api.Node) api.Node {
	n.Name = c.Text(n.Name)
	n.Room = c.Number(n.Room)
	if c.version >= withZone {
		n.Zone = c.Text(n.Zone)
	}
	return n
}

// Lease passes the fields of a lease.
func (c *Coder) Lease(l api.Lease) api.Lease {
	l.Job = c.Text(l.Job)
	l.Node = c.Text(l.Node)
	l.Until = c.Number(l.Until)
	return l
}

// UpTo returns the function that passes a number of rows that may not exceed most.
func (c *Coder) UpTo(most uint64) func(int) int {
	return func(n int) int {
		return int(c.limited(uint64(n), most))
	}
}

// Number passes a number that is not negative.
func (c *Coder) Number(n int) int {
	return int(c.limited(uint64(n), maxNumber))
}

// signed passes a number that may be negative.
func (c *Coder) signed(n int) int {
	return int(prim.Zag(c.limited(prim.Zig(int64(n)), maxNumber)))
}

// limited passes a number; one that exceeds most is not read.
func (c *Coder) limited(n, most uint64) uint64 {
	if !c.reading {
		c.written.WriteString(prim.Number(n))
		return n
	}
	n, size, e := prim.ReadNumber(c.rest)
	if n > most {
		n, e = 0, api.ErrLarge
	}
	c.advance(size, e)
	return n
}

// Text passes a string.
func (c *Coder) Text(s string) string {
	if !c.reading {
		b, e := prim.Text(s)
		c.Fail(e)
		c.written.WriteString(b)
		return s
	}
	s, size, e := prim.ReadText(c.rest)
	c.advance(size, e)
	return s
}

// advance goes on behind a field that was read, or ends the reading with an error.
func (c *Coder) advance(size int, e api.Errno) {
	if e != api.OK {
		c.Fail(e)
		// With no bytes left, all further fields are zero, and no further rows are read.
		size = len(c.rest)
	}
	c.rest = c.rest[size:]
}

// Fail notes an error of the fields, unless there was one before.
func (c *Coder) Fail(e api.Errno) {
	if c.e == api.OK {
		c.e = e
	}
}

// Written returns the bytes of all fields, or the first error of the writing.
func (c *Coder) Written() (string, api.Errno) {
	if c.e != api.OK {
		return "", c.e
	}
	return c.written.String(), api.OK
}

// End returns the first error of the reading; bytes that remain are one, too.
func (c *Coder) End() api.Errno {
	if c.rest != "" {
		c.Fail(api.ErrForm)
	}
	return c.e
}

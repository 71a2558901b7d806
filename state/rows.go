package state

import (
	"strings"

	"bracken/api"
)

// What is below concerns rows rather than whole states, and is exported because the packages above have such rows, too.

// CheckRows returns the error of the first row that has one; the key of every row must be greater than that of the row before it.
func CheckRows[T any](rows []T, check func(T) api.Errno, key func(T) string) api.Errno {
	for i, row := range rows {
		if e := check(row); e != api.OK {
			return e
		}
		if i > 0 && key(row) <= key(rows[i-1]) {
			return api.ErrOrder
		}
	}
	return api.OK
}

// CheckLease checks a lease by itself, whatever jobs and nodes there are.
func CheckLease(l api.Lease) api.Errno {
	if !IsName(l.Job) || !IsName(l.Node) {
		return api.ErrForm
	}
	return checkUntil(l)
}

// checkUntil checks the end of a lease.
func checkUntil(l api.Lease) api.Errno {
	if !within(l.Until, 0, api.MaxTime) {
		return api.ErrArg
	}
	return api.OK
}

// Each returns the rows of a table after a change, in new memory.
func Each[T any](rows []T, change func(T) T) []T {
	var changed []T
	for _, row := range rows {
		changed = append(changed, change(row))
	}
	return changed
}

// Copy returns a copy of s that shares no memory with it.
func Copy(s api.State) api.State {
	return api.State{
		Rev:    s.Rev,
		Jobs:   Each(s.Jobs, copyJob),
		Nodes:  Each(s.Nodes, copyNode),
		Leases: Each(s.Leases, copyLease),
	}
}

// The copies of the rows.

func copyJob(j api.Job) api.Job {
	j.Name, j.Tag = strings.Clone(j.Name), strings.Clone(j.Tag)
	return j
}

func copyNode(n api.Node) api.Node {
	n.Name, n.Zone = strings.Clone(n.Name), strings.Clone(n.Zone)
	return n
}

func copyLease(l api.Lease) api.Lease {
	l.Job, l.Node = strings.Clone(l.Job), strings.Clone(l.Node)
	return l
}

// The keys by which the rows of the tables are ordered.

// JobName is the key of a job.
func JobName(j api.Job) string { return j.Name }

// NodeName is the key of a node.
func NodeName(n api.Node) string { return n.Name }

// LeaseJob is the key of a lease: a job has at most one.
func LeaseJob(l api.Lease) string { return l.Job }

package serve

import (
	"slices"
	"strings"

	"bracken/api"
	"bracken/req"
	"bracken/state"
)

// transaction is what a server would become. Its rows are replaced and never modified, because they are those of the server at first.
type transaction struct {
	api.State
	now int
}

// run executes q; after an error, the transaction is of no use.
func (t *transaction) run(q api.Request) api.Errno {
	if e := req.Check(q); e != api.OK {
		return e
	}
	switch q.Kind {
	case api.PutJob:
		t.Jobs = insert(t.Jobs, q.Job, state.JobName)
		return state.Check(t.State)
	case api.PutNode:
		t.Nodes = insert(t.Nodes, q.Node, state.NodeName)
		return state.Check(t.State)
	case api.DelJob:
		return t.deleteJob(q.Name)
	case api.DelNode:
		return t.deleteNode(q.Name)
	case api.Grant:
		return t.grant(q.Lease)
	case api.Free:
		return t.free(q.Name)
	case api.Tick:
		return t.tick(q.N)
	}
	// Get and Watch.
	return api.OK
}

// deleteJob removes a job and its lease.
func (t *transaction) deleteJob(name string) api.Errno {
	at, ok := find(t.Jobs, name, state.JobName)
	if !ok {
		return api.ErrNone
	}
	t.Jobs = slices.Concat(t.Jobs[:at], t.Jobs[at+1:])
	t.end(func(l api.Lease) bool { return l.Job == name })
	return api.OK
}

// deleteNode removes a node and its leases.
func (t *transaction) deleteNode(name string) api.Errno {
	at, ok := find(t.Nodes, name, state.NodeName)
	if !ok {
		return api.ErrNone
	}
	t.Nodes = slices.Concat(t.Nodes[:at], t.Nodes[at+1:])
	t.end(func(l api.Lease) bool { return l.Node == name })
	return api.OK
}

// grant adds a lease, which is one more try of its job.
func (t *transaction) grant(l api.Lease) api.Errno {
	at, hasJob := find(t.Jobs, l.Job, state.JobName)
	_, hasNode := find(t.Nodes, l.Node, state.NodeName)
	if !hasJob || !hasNode {
		return api.ErrNone
	}
	if _, ok := find(t.Leases, l.Job, state.LeaseJob); ok {
		return api.ErrTwice
	}
	if l.Until <= t.now {
		return api.ErrArg
	}
	job := t.Jobs[at]
	if job.Tries == api.MaxTries {
		return api.ErrLarge
	}
	job.Tries++
	t.Jobs = insert(t.Jobs, job, state.JobName)
	t.Leases = insert(t.Leases, l, state.LeaseJob)
	return state.Check(t.State)
}

// free removes the lease of a job.
func (t *transaction) free(job string) api.Errno {
	if _, ok := find(t.Leases, job, state.LeaseJob); !ok {
		return api.ErrNone
	}
	t.end(func(l api.Lease) bool { return l.Job == job })
	return api.OK
}

// tick lets n pass and removes the leases that have run out.
func (t *transaction) tick(n int) api.Errno {
	if n > api.MaxTime-t.now {
		return api.ErrArg
	}
	t.now += n
	t.end(func(l api.Lease) bool { return l.Until <= t.now })
	return api.OK
}

// end removes the selected leases.
func (t *transaction) end(selected func(api.Lease) bool) {
	t.Leases = slices.DeleteFunc(slices.Clone(t.Leases), selected)
}

// find returns the position of the row with a key, or where it would be, and whether there is one.
func find[T any](rows []T, key string, keyOf func(T) string) (int, bool) {
	return slices.BinarySearchFunc(rows, key, func(row T, key string) int {
		return strings.Compare(keyOf(row), key)
	})
}

// insert returns rows with one more, in order, which takes the place of the one with the same key.
func insert[T any](rows []T, row T, keyOf func(T) string) []T {
	at, ok := find(rows, keyOf(row), keyOf)
	next := at
	if ok {
		next++
	}
	return slices.Concat(rows[:at], []T{row}, rows[next:])
}

// sameRows reports whether two states differ in their Rev at most.
func sameRows(a, b api.State) bool {
	return slices.Equal(a.Jobs, b.Jobs) && slices.Equal(a.Nodes, b.Nodes) && slices.Equal(a.Leases, b.Leases)
}

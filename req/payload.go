package req

import (
	"bracken/api"
	"bracken/state"
	"bracken/wire"
)

// payload is what a request has besides its kind.
type payload interface {
	// check returns the first error of the payload.
	check() api.Errno
	// pass returns the payload that c passes.
	pass(c *wire.Coder) payload
	// request returns the request of a kind that has the payload and nothing else.
	request(kind int) api.Request
}

// The payloads of the kinds.
type (
	job     struct{ api.Job }
	node    struct{ api.Node }
	lease   struct{ api.Lease }
	name    string
	ticks   int
	nothing struct{}
)

// payloadOf returns the payload that r has by its kind, and whether there is such a kind.
func payloadOf(r api.Request) (payload, bool) {
	switch r.Kind {
	case api.PutJob:
		return job{r.Job}, true
	case api.PutNode:
		return node{r.Node}, true
	case api.DelJob, api.DelNode, api.Free:
		return name(r.Name), true
	case api.Grant:
		return lease{r.Lease}, true
	case api.Tick:
		return ticks(r.N), true
	case api.Get, api.Watch:
		return nothing{}, true
	}
	return nil, false
}

func (j job) check() api.Errno {
	return state.Check(api.State{Jobs: []api.Job{j.Job}})
}

func (j job) pass(c *wire.Coder) payload { return job{c.Job(j.Job)} }

func (j job) request(kind int) api.Request { return api.Request{Kind: kind, Job: j.Job} }

func (n node) check() api.Errno {
	return state.Check(api.State{Nodes: []api.Node{n.Node}})
}

func (n node) pass(c *wire.Coder) payload { return node{c.Node(n.Node)} }

func (n node) request(kind int) api.Request { return api.Request{Kind: kind, Node: n.Node} }

// The job and the node of a lease need not be in any state: the server knows whether they are.
func (l lease) check() api.Errno { return state.CheckLease(l.Lease) }

func (l lease) pass(c *wire.Coder) payload { return lease{c.Lease(l.Lease)} }

func (l lease) request(kind int) api.Request { return api.Request{Kind: kind, Lease: l.Lease} }

func (n name) check() api.Errno {
	if !state.IsName(string(n)) {
		return api.ErrForm
	}
	return api.OK
}

func (n name) pass(c *wire.Coder) payload { return name(c.Text(string(n))) }

func (n name) request(kind int) api.Request { return api.Request{Kind: kind, Name: string(n)} }

func (t ticks) check() api.Errno {
	if !isTime(int(t)) {
		return api.ErrArg
	}
	return api.OK
}

func (t ticks) pass(c *wire.Coder) payload { return ticks(c.Number(int(t))) }

func (t ticks) request(kind int) api.Request { return api.Request{Kind: kind, N: int(t)} }

func (nothing) check() api.Errno { return api.OK }

func (nothing) pass(*wire.Coder) payload { return nothing{} }

func (nothing) request(kind int) api.Request { return api.Request{Kind: kind} }

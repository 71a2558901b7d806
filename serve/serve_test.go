package serve

import (
	"fmt"
	"maps"
	"math"
	"math/rand"
	"reflect"
	"slices"
	"strings"
	"testing"

	"bracken/api"
	"bracken/delta"
	"bracken/req"
	"bracken/state"
)

// sample returns a state with jobs that have a lease and jobs that have none. The node m has room for 5 more, n is full.
func sample() api.State {
	return api.State{
		Rev: 300,
		Jobs: []api.Job{
			{Name: "a", Prio: -5, Need: 3, Tries: 1, Tag: "red"},
			{Name: "bb", Need: 4},
			{Name: "c", Need: 1, Tries: 99},
			{Name: "d", Need: 6, Tries: 100},
			{Name: "é", Need: 5, Tries: 7},
		},
		Nodes: []api.Node{
			{Name: "m", Room: 8, Zone: "west"},
			{Name: "n", Room: 4},
			{Name: "o"},
		},
		Leases: []api.Lease{
			{Job: "a", Node: "m", Until: 128},
			{Job: "bb", Node: "n", Until: 7},
		},
	}
}

// fullState returns a state with as many rows as there may be.
func fullState() api.State {
	s := api.State{Rev: 8}
	for i := range api.MaxNodes {
		s.Nodes = append(s.Nodes, api.Node{Name: fmt.Sprintf("x%015d", i), Room: 2, Zone: strings.Repeat("z", 16)})
	}
	for i := range api.MaxJobs {
		name := fmt.Sprintf("x%015d", i)
		s.Jobs = append(s.Jobs, api.Job{Name: name, Need: 1, Tries: 1, Tag: strings.Repeat("t", 16)})
		s.Leases = append(s.Leases, api.Lease{Job: name, Node: s.Nodes[i/2].Name, Until: i})
	}
	return s
}

// The requests.

func putJob(j api.Job) api.Request   { return api.Request{Kind: api.PutJob, Job: j} }
func putNode(n api.Node) api.Request { return api.Request{Kind: api.PutNode, Node: n} }
func delJob(name string) api.Request { return api.Request{Kind: api.DelJob, Name: name} }
func delNode(name string) api.Request {
	return api.Request{Kind: api.DelNode, Name: name}
}
func grant(job, node string, until int) api.Request {
	return api.Request{Kind: api.Grant, Lease: api.Lease{Job: job, Node: node, Until: until}}
}
func free(job string) api.Request { return api.Request{Kind: api.Free, Name: job} }
func tick(n int) api.Request      { return api.Request{Kind: api.Tick, N: n} }

// same reports whether two states are equal; a nil slice equals an empty one.
func same(a, b api.State) bool {
	return a.Rev == b.Rev && slices.Equal(a.Jobs, b.Jobs) && slices.Equal(a.Nodes, b.Nodes) && slices.Equal(a.Leases, b.Leases)
}

// sameDelta reports whether two deltas are equal; a nil slice equals an empty one.
func sameDelta(a, b api.Delta) bool {
	return a.From == b.From && a.To == b.To &&
		slices.Equal(a.Jobs, b.Jobs) && slices.Equal(a.Nodes, b.Nodes) && slices.Equal(a.Leases, b.Leases) &&
		slices.Equal(a.GoneJobs, b.GoneJobs) && slices.Equal(a.GoneNodes, b.GoneNodes) && slices.Equal(a.GoneLeases, b.GoneLeases)
}

// with returns sample after a change.
func with(change func(s *api.State)) api.State {
	s := sample()
	change(&s)
	return s
}

// start returns a server with the state s at a time.
func start(t *testing.T, s api.State, now int) *Server {
	t.Helper()
	v, e := New(s)
	if e != api.OK {
		t.Fatalf("New(%+v): error %d", s, e)
	}
	// With a long time the leases of s could run out before the test begins.
	v.now = now
	return v
}

// want checks a request that leads a server to the rows of next and to a time.
func want(t *testing.T, v *Server, q api.Request, next api.State, now int) {
	t.Helper()
	old := v.State()
	next.Rev = old.Rev
	changed := !same(old, next)
	wantDelta := api.Delta{}
	if changed {
		next.Rev++
		d, e := delta.Diff(old, next)
		if e != api.OK {
			t.Fatalf("the state that is wanted after %+v has the error %d", q, e)
		}
		wantDelta = d
	}
	reply, d, is := v.Do(q)
	if wantReply := (api.Reply{Rev: next.Rev}); reply != wantReply || !sameDelta(d, wantDelta) || is != changed {
		t.Errorf("Do(%+v) = %+v, %+v, %t, want %+v, %+v, %t", q, reply, d, is, wantReply, wantDelta, changed)
	}
	if s := v.State(); !same(s, next) || v.Now() != now {
		t.Errorf("after Do(%+v) the state is %+v at %d, want %+v at %d", q, s, v.Now(), next, now)
	}
}

// wantError checks a request that has an error and changes nothing.
func wantError(t *testing.T, v *Server, q api.Request, code api.Errno) {
	t.Helper()
	old, now := v.State(), v.Now()
	reply, d, is := v.Do(q)
	if wantReply := (api.Reply{Code: code, Rev: old.Rev}); reply != wantReply || !sameDelta(d, api.Delta{}) || is {
		t.Errorf("Do(%+v) = %+v, %+v, %t, want %+v and no delta", q, reply, d, is, wantReply)
	}
	if s := v.State(); !same(s, old) || v.Now() != now {
		t.Errorf("after Do(%+v), which has an error, the state is %+v at %d, and was %+v at %d", q, s, v.Now(), old, now)
	}
}

// P22

func TestNew(t *testing.T) {
	for _, s := range []api.State{{}, {Rev: 1 << 40}, sample(), fullState()} {
		v, e := New(s)
		if e != api.OK || !same(v.State(), s) || v.Now() != 0 {
			t.Errorf("New(%+v) = %+v, %d", s, v, e)
		}
	}
	if a, b := start(t, sample(), 0), start(t, sample(), 0); a == b {
		t.Error("New returns the same server twice")
	}
}

func TestNewErrors(t *testing.T) {
	for code, s := range map[api.Errno]api.State{
		api.ErrArg:   {Rev: 1<<40 + 1},
		api.ErrLarge: {Nodes: make([]api.Node, 21)},
		api.ErrForm:  {Jobs: []api.Job{{}}},
		api.ErrOrder: {Jobs: []api.Job{{Name: "a"}, {Name: "a"}}},
		api.ErrNone:  {Leases: []api.Lease{{Job: "a", Node: "n"}}},
		api.ErrRoom:  with(func(s *api.State) { s.Nodes[1].Room = 3 }),
	} {
		if v, e := New(s); v != nil || e != code {
			t.Errorf("New(%+v) = %+v, %d, want nil, %d", s, v, e, code)
		}
	}
	// The first error of the state counts.
	if v, e := New(api.State{Rev: -1, Jobs: make([]api.Job, 41)}); v != nil || e != api.ErrArg {
		t.Errorf("New = %+v, %d, want nil, ErrArg", v, e)
	}
}

func TestPutJobInserts(t *testing.T) {
	for at, name := range []string{"A", "aa", "bc", "cz", "z", "éé"} {
		job := api.Job{Name: name, Prio: 1000, Need: 1000000, Tries: 100, Tag: "t"}
		next := with(func(s *api.State) { s.Jobs = slices.Insert(s.Jobs, at, job) })
		want(t, start(t, sample(), 0), putJob(job), next, 0)
	}
	want(t, start(t, api.State{}, 5), putJob(api.Job{Name: "a"}), api.State{Jobs: []api.Job{{Name: "a"}}}, 5)
}

func TestPutJobReplaces(t *testing.T) {
	for at, old := range sample().Jobs {
		for _, change := range []func(j *api.Job){
			func(j *api.Job) { j.Prio = 9 },
			func(j *api.Job) { j.Need = 2 },
			func(j *api.Job) { j.Tries = 50 },
			func(j *api.Job) { j.Tag = "t" },
			func(j *api.Job) { *j = api.Job{Name: j.Name} },
		} {
			job := old
			change(&job)
			next := with(func(s *api.State) { s.Jobs[at] = job })
			want(t, start(t, sample(), 0), putJob(job), next, 0)
		}
	}
	// A job with a lease may need as much as its node has room for.
	want(t, start(t, sample(), 0), putJob(api.Job{Name: "a", Need: 8}), with(func(s *api.State) { s.Jobs[0] = api.Job{Name: "a", Need: 8} }), 0)
}

func TestPutJobErrors(t *testing.T) {
	v := start(t, sample(), 0)
	wantError(t, v, putJob(api.Job{Name: "a", Need: 9}), api.ErrRoom)
	wantError(t, v, putJob(api.Job{Name: "bb", Need: 5}), api.ErrRoom)
	wantError(t, v, putJob(api.Job{Name: "bb", Need: 1000000}), api.ErrRoom)
	// What a job without a lease needs is no matter.
	want(t, v, putJob(api.Job{Name: "c", Need: 1000000}), with(func(s *api.State) { s.Jobs[2] = api.Job{Name: "c", Need: 1000000} }), 0)
	most := start(t, fullState(), 0)
	for _, name := range []string{"a", "x00", "z"} {
		wantError(t, most, putJob(api.Job{Name: name}), api.ErrLarge)
	}
	// Too many jobs are found before too little room.
	wantError(t, most, putJob(api.Job{Name: "a", Need: 1000000}), api.ErrLarge)
	last := fullState()
	last.Jobs[39].Prio = 7
	want(t, most, putJob(last.Jobs[39]), last, 0)
}

func TestPutNodeInserts(t *testing.T) {
	for at, name := range []string{"M", "ma", "nn", "é"} {
		node := api.Node{Name: name, Room: 1000000, Zone: "z"}
		next := with(func(s *api.State) { s.Nodes = slices.Insert(s.Nodes, at, node) })
		want(t, start(t, sample(), 0), putNode(node), next, 0)
	}
	want(t, start(t, api.State{}, 5), putNode(api.Node{Name: "n"}), api.State{Nodes: []api.Node{{Name: "n"}}}, 5)
}

func TestPutNodeReplaces(t *testing.T) {
	for at, old := range sample().Nodes {
		for _, node := range []api.Node{
			{Name: old.Name, Room: 4, Zone: old.Zone},
			{Name: old.Name, Room: 1000000, Zone: old.Zone},
			{Name: old.Name, Room: old.Room, Zone: "z"},
			{Name: old.Name, Room: old.Room + 1},
		} {
			next := with(func(s *api.State) { s.Nodes[at] = node })
			want(t, start(t, sample(), 0), putNode(node), next, 0)
		}
	}
}

func TestPutNodeErrors(t *testing.T) {
	v := start(t, sample(), 0)
	wantError(t, v, putNode(api.Node{Name: "m", Room: 2}), api.ErrRoom)
	wantError(t, v, putNode(api.Node{Name: "n"}), api.ErrRoom)
	want(t, v, putNode(api.Node{Name: "m", Room: 3}), with(func(s *api.State) { s.Nodes[0] = api.Node{Name: "m", Room: 3} }), 0)
	most := start(t, fullState(), 0)
	for _, name := range []string{"a", "x00", "z"} {
		wantError(t, most, putNode(api.Node{Name: name}), api.ErrLarge)
	}
	first := fullState()
	first.Nodes[0].Room = 1000000
	want(t, most, putNode(first.Nodes[0]), first, 0)
}

func TestDelJob(t *testing.T) {
	for at, job := range sample().Jobs {
		v := start(t, sample(), 0)
		next := with(func(s *api.State) {
			s.Jobs = slices.Delete(s.Jobs, at, at+1)
			s.Leases = slices.DeleteFunc(s.Leases, func(l api.Lease) bool { return l.Job == job.Name })
		})
		want(t, v, delJob(job.Name), next, 0)
		wantError(t, v, delJob(job.Name), api.ErrNone)
	}
}

func TestDelNode(t *testing.T) {
	for at, node := range sample().Nodes {
		v := start(t, sample(), 0)
		next := with(func(s *api.State) {
			s.Nodes = slices.Delete(s.Nodes, at, at+1)
			s.Leases = slices.DeleteFunc(s.Leases, func(l api.Lease) bool { return l.Node == node.Name })
		})
		want(t, v, delNode(node.Name), next, 0)
		wantError(t, v, delNode(node.Name), api.ErrNone)
	}
	// Several leases of one node.
	most := fullState()
	next := most
	next.Nodes, next.Leases = most.Nodes[1:], most.Leases[2:]
	want(t, start(t, most, 0), delNode(most.Nodes[0].Name), next, 0)
}

// A job and a node may have the same name.
func TestDelOfEqualNames(t *testing.T) {
	s := api.State{
		Jobs:   []api.Job{{Name: "a"}, {Name: "b"}},
		Nodes:  []api.Node{{Name: "a"}, {Name: "b"}},
		Leases: []api.Lease{{Job: "a", Node: "b", Until: 1}, {Job: "b", Node: "a", Until: 1}},
	}
	want(t, start(t, s, 0), delJob("a"), api.State{Jobs: s.Jobs[1:], Nodes: s.Nodes, Leases: s.Leases[1:]}, 0)
	want(t, start(t, s, 0), delNode("a"), api.State{Jobs: s.Jobs, Nodes: s.Nodes[1:], Leases: s.Leases[:1]}, 0)
	want(t, start(t, s, 0), free("a"), api.State{Jobs: s.Jobs, Nodes: s.Nodes, Leases: s.Leases[1:]}, 0)
}

func TestDelErrors(t *testing.T) {
	v := start(t, sample(), 0)
	for _, name := range []string{"A", "aa", "b", "bbb", "z", "m", "n"} {
		wantError(t, v, delJob(name), api.ErrNone)
	}
	for _, name := range []string{"M", "mm", "z", "a", "bb"} {
		wantError(t, v, delNode(name), api.ErrNone)
	}
	wantError(t, start(t, api.State{}, 0), delJob("a"), api.ErrNone)
	wantError(t, start(t, api.State{}, 0), delNode("a"), api.ErrNone)
}

func TestGrant(t *testing.T) {
	for _, c := range []struct {
		job   int
		lease int // where the lease is inserted
		node  string
		now   int
		until int
	}{
		{2, 2, "m", 0, 1},
		{2, 2, "m", 6, 7},
		{2, 2, "m", 0, 1 << 40},
		{2, 2, "m", 1<<40 - 1, 1 << 40},
		{4, 2, "m", 5, 100},
	} {
		s := sample()
		next := with(func(s *api.State) {
			s.Jobs[c.job].Tries++
			s.Leases = slices.Insert(s.Leases, c.lease, api.Lease{Job: s.Jobs[c.job].Name, Node: c.node, Until: c.until})
		})
		v := start(t, s, c.now)
		want(t, v, grant(s.Jobs[c.job].Name, c.node, c.until), next, c.now)
		wantError(t, v, grant(s.Jobs[c.job].Name, c.node, c.until), api.ErrTwice)
	}
	// At the beginning and in the middle of the leases, at nodes without room for more than nothing.
	s := sample()
	s.Jobs[0].Need, s.Leases = 0, s.Leases[1:]
	next := s
	next.Jobs = slices.Clone(s.Jobs)
	next.Jobs[0].Tries = 2
	next.Leases = []api.Lease{{Job: "a", Node: "o", Until: 9}, {Job: "bb", Node: "n", Until: 7}}
	v := start(t, s, 0)
	want(t, v, grant("a", "o", 9), next, 0)
	next.Jobs = slices.Insert(slices.Clone(next.Jobs), 1, api.Job{Name: "b"})
	want(t, v, putJob(api.Job{Name: "b"}), next, 0)
	next.Jobs = slices.Clone(next.Jobs)
	next.Jobs[1].Tries = 1
	next.Leases = slices.Insert(slices.Clone(next.Leases), 1, api.Lease{Job: "b", Node: "o", Until: 1})
	want(t, v, grant("b", "o", 1), next, 0)
}

func TestGrantErrors(t *testing.T) {
	for _, c := range []struct {
		name string
		q    api.Request
		code api.Errno
	}{
		{"no job", grant("b", "m", 11), api.ErrNone},
		{"a node is no job", grant("m", "m", 11), api.ErrNone},
		{"no node", grant("c", "mm", 11), api.ErrNone},
		{"a job is no node", grant("c", "a", 11), api.ErrNone},
		{"neither", grant("x", "x", 11), api.ErrNone},
		{"a lease at the same node", grant("a", "m", 11), api.ErrTwice},
		{"the same lease", grant("a", "m", 128), api.ErrTwice},
		{"a lease at another node", grant("a", "o", 11), api.ErrTwice},
		{"now", grant("c", "m", 10), api.ErrArg},
		{"before now", grant("c", "m", 9), api.ErrArg},
		{"at the beginning", grant("c", "m", 0), api.ErrArg},
		{"too many tries", grant("d", "m", 11), api.ErrLarge},
		{"no room", grant("c", "n", 11), api.ErrRoom},
		{"never room", grant("c", "o", 1<<40), api.ErrRoom},

		{"none before twice", grant("a", "x", 11), api.ErrNone},
		{"none before arg", grant("x", "m", 0), api.ErrNone},
		{"none before large", grant("d", "x", 11), api.ErrNone},
		{"twice before arg", grant("a", "m", 0), api.ErrTwice},
		{"twice before room", grant("bb", "o", 11), api.ErrTwice},
		{"arg before large", grant("d", "m", 10), api.ErrArg},
		{"arg before room", grant("c", "o", 10), api.ErrArg},
		{"large before room", grant("d", "o", 11), api.ErrLarge},
	} {
		t.Run(c.name, func(t *testing.T) { wantError(t, start(t, sample(), 10), c.q, c.code) })
	}
	// A job whose Tries are 100 and which has a lease.
	s := with(func(s *api.State) { s.Jobs[0].Tries = 100 })
	wantError(t, start(t, s, 10), grant("a", "m", 11), api.ErrTwice)
	wantError(t, start(t, sample(), 1<<40), grant("c", "m", 1<<40), api.ErrArg)
}

func TestTriesUpToTheLimit(t *testing.T) {
	v := start(t, sample(), 0)
	s := sample()
	s.Jobs[2].Tries = 100
	lease := api.Lease{Job: "c", Node: "m", Until: 5}
	want(t, v, grant("c", "m", 5), api.State{Jobs: s.Jobs, Nodes: s.Nodes, Leases: append(s.Leases, lease)}, 0)
	// The end of a lease leaves the Tries as they are.
	want(t, v, free("c"), s, 0)
	wantError(t, v, grant("c", "m", 5), api.ErrLarge)
}

func TestFree(t *testing.T) {
	v := start(t, sample(), 0)
	want(t, v, free("a"), with(func(s *api.State) { s.Leases = s.Leases[1:] }), 0)
	wantError(t, v, free("a"), api.ErrNone)
	want(t, v, free("bb"), with(func(s *api.State) { s.Leases = nil }), 0)
	for _, name := range []string{"A", "a", "b", "bb", "c", "é", "x", "m", "n"} {
		wantError(t, v, free(name), api.ErrNone)
	}
	// The leases do not have the name of their node.
	wantError(t, start(t, sample(), 0), free("m"), api.ErrNone)
	wantError(t, start(t, sample(), 0), free("c"), api.ErrNone)
}

func TestTick(t *testing.T) {
	v := start(t, sample(), 0)
	want(t, v, tick(0), sample(), 0)
	want(t, v, tick(6), sample(), 6)
	want(t, v, tick(0), sample(), 6)
	one := with(func(s *api.State) { s.Leases = s.Leases[:1] })
	want(t, v, tick(1), one, 7)
	want(t, v, tick(120), one, 127)
	none := with(func(s *api.State) { s.Leases = nil })
	want(t, v, tick(2), none, 129)
	want(t, v, tick(1<<40-129), none, 1<<40)
	want(t, v, tick(0), none, 1<<40)
	wantError(t, v, tick(1), api.ErrArg)
	wantError(t, v, tick(1<<40), api.ErrArg)
}

func TestTickRemovesSeveralLeases(t *testing.T) {
	for now := range 42 {
		s := fullState()
		s.Leases = s.Leases[min(now+1, 40):]
		want(t, start(t, fullState(), 0), tick(now), s, now)
	}
	// Leases that have not run out may be anywhere.
	s := fullState()
	for i := range s.Leases {
		s.Leases[i].Until = 5 + i%3
	}
	next := s
	next.Leases = slices.DeleteFunc(slices.Clone(s.Leases), func(l api.Lease) bool { return l.Until < 7 })
	want(t, start(t, s, 4), tick(2), next, 6)
}

// Also a tick of nothing removes the leases that have run out, which only the first state of a server may have.
func TestTickOfNothing(t *testing.T) {
	s := sample()
	s.Leases[0].Until = 0
	next := sample()
	next.Leases = next.Leases[1:]
	v := start(t, s, 0)
	want(t, v, api.Request{Kind: api.Get}, s, 0)
	want(t, v, tick(0), next, 0)
}

func TestTickErrors(t *testing.T) {
	for _, c := range []struct{ now, n int }{{1, 1 << 40}, {1 << 40, 1}, {1<<40 - 5, 6}, {1 << 39, 1<<39 + 1}} {
		v := start(t, sample(), c.now)
		wantError(t, v, tick(c.n), api.ErrArg)
		want(t, v, tick(1<<40-c.now), with(func(s *api.State) { s.Leases = nil }), 1<<40)
	}
}

func TestGetAndWatch(t *testing.T) {
	for _, s := range []api.State{{}, {Rev: 1 << 40}, sample(), fullState()} {
		v := start(t, s, 9)
		want(t, v, api.Request{Kind: api.Get}, s, 9)
		want(t, v, api.Request{Kind: api.Watch}, s, 9)
	}
}

// invalidRequests holds requests with every error of req.Check.
func invalidRequests() map[api.Errno][]api.Request {
	long := strings.Repeat("x", 17)
	return map[api.Errno][]api.Request{
		api.ErrArg: {
			{}, {Kind: -1}, {Kind: 10}, {Kind: math.MaxInt}, {Kind: math.MinInt}, {Kind: 10, Name: "a"},
			putJob(api.Job{Name: "a", Prio: 1001}), putJob(api.Job{Name: "a", Need: -1}), putJob(api.Job{Name: "a", Tries: 101}),
			putNode(api.Node{Name: "n", Room: 1000001}),
			grant("x", "x", -1), grant("a", "m", 1<<40+1),
			tick(-1), tick(1<<40 + 1), tick(math.MaxInt), tick(math.MinInt),
		},
		api.ErrForm: {
			putJob(api.Job{}), putJob(api.Job{Name: long}), putJob(api.Job{Name: "a", Tag: "\xff"}), putJob(api.Job{Tries: -1}),
			putNode(api.Node{}), putNode(api.Node{Name: "n", Zone: long}),
			delJob(""), delNode(long), free("\xc3"), grant("", "n", 5), grant("a", "", 5), grant("a", long, -1),
			{Kind: api.Get, N: 1}, {Kind: api.Watch, Name: "a"}, {Kind: api.Tick, N: 1, Name: "a"}, {Kind: api.DelJob, Name: "a", N: 1},
			{Kind: api.PutJob, Job: api.Job{Name: "a"}, Node: api.Node{Name: "n"}}, {Kind: api.Free, Name: "a", Lease: api.Lease{Until: 1}},
		},
	}
}

func TestInvalidRequests(t *testing.T) {
	for _, s := range []api.State{sample(), fullState(), with(func(s *api.State) { s.Rev = 1 << 40 })} {
		v := start(t, s, 3)
		for code, all := range invalidRequests() {
			for _, q := range all {
				wantError(t, v, q, code)
			}
		}
	}
}

// P23

func TestTheSameAgain(t *testing.T) {
	v := start(t, sample(), 0)
	q := putJob(api.Job{Name: "x", Need: 3, Tag: "t"})
	next := with(func(s *api.State) { s.Jobs = slices.Insert(s.Jobs, 4, q.Job) })
	want(t, v, q, next, 0)
	want(t, v, q, next, 0)
	if reply, d, is := v.Do(q); reply != (api.Reply{Rev: 301}) || !sameDelta(d, api.Delta{}) || is {
		t.Errorf("Do = %+v, %+v, %t", reply, d, is)
	}
	for _, j := range next.Jobs {
		want(t, v, putJob(j), next, 0)
	}
	for _, n := range next.Nodes {
		want(t, v, putNode(n), next, 0)
	}
}

// Every change is one revision, whatever it changes.
func TestRevisions(t *testing.T) {
	v := start(t, api.State{}, 0)
	for i, c := range []struct {
		q   api.Request
		rev int
		d   api.Delta
	}{
		{putNode(api.Node{Name: "n", Room: 5}), 1, api.Delta{From: 0, To: 1, Nodes: []api.Node{{Name: "n", Room: 5}}}},
		{putJob(api.Job{Name: "a", Need: 2}), 2, api.Delta{From: 1, To: 2, Jobs: []api.Job{{Name: "a", Need: 2}}}},
		{putJob(api.Job{Name: "b", Need: 3}), 3, api.Delta{From: 2, To: 3, Jobs: []api.Job{{Name: "b", Need: 3}}}},
		{grant("b", "n", 4), 4, api.Delta{From: 3, To: 4, Jobs: []api.Job{{Name: "b", Need: 3, Tries: 1}}, Leases: []api.Lease{{Job: "b", Node: "n", Until: 4}}}},
		{grant("a", "n", 3), 5, api.Delta{From: 4, To: 5, Jobs: []api.Job{{Name: "a", Need: 2, Tries: 1}}, Leases: []api.Lease{{Job: "a", Node: "n", Until: 3}}}},
		{tick(2), 5, api.Delta{}},
		{api.Request{Kind: api.Watch}, 5, api.Delta{}},
		{putNode(api.Node{Name: "n", Room: 6}), 6, api.Delta{From: 5, To: 6, Nodes: []api.Node{{Name: "n", Room: 6}}}},
		{free("b"), 7, api.Delta{From: 6, To: 7, GoneLeases: []string{"b"}}},
		{grant("b", "n", 3), 8, api.Delta{From: 7, To: 8, Jobs: []api.Job{{Name: "b", Need: 3, Tries: 2}}, Leases: []api.Lease{{Job: "b", Node: "n", Until: 3}}}},
		{tick(1), 9, api.Delta{From: 8, To: 9, GoneLeases: []string{"a", "b"}}},
		{grant("a", "n", 9), 10, api.Delta{From: 9, To: 10, Jobs: []api.Job{{Name: "a", Need: 2, Tries: 2}}, Leases: []api.Lease{{Job: "a", Node: "n", Until: 9}}}},
		{delJob("a"), 11, api.Delta{From: 10, To: 11, GoneJobs: []string{"a"}, GoneLeases: []string{"a"}}},
		{grant("b", "n", 9), 12, api.Delta{From: 11, To: 12, Jobs: []api.Job{{Name: "b", Need: 3, Tries: 3}}, Leases: []api.Lease{{Job: "b", Node: "n", Until: 9}}}},
		{delNode("n"), 13, api.Delta{From: 12, To: 13, GoneNodes: []string{"n"}, GoneLeases: []string{"b"}}},
	} {
		reply, d, is := v.Do(c.q)
		if reply != (api.Reply{Rev: c.rev}) || !sameDelta(d, c.d) || is != (c.d.To > 0) {
			t.Errorf("request %d: Do = %+v, %+v, %t, want Rev %d, %+v", i, reply, d, is, c.rev, c.d)
		}
		if v.State().Rev != c.rev {
			t.Errorf("request %d: Rev is %d, want %d", i, v.State().Rev, c.rev)
		}
	}
}

func TestLastRevision(t *testing.T) {
	last := with(func(s *api.State) { s.Rev = 1 << 40 })
	for _, q := range []api.Request{
		putJob(api.Job{Name: "x"}), putJob(api.Job{Name: "a"}), putNode(api.Node{Name: "x"}), putNode(api.Node{Name: "o", Zone: "z"}),
		delJob("a"), delJob("c"), delNode("m"), delNode("o"), grant("c", "m", 5), free("a"), tick(7), tick(1 << 39),
	} {
		wantError(t, start(t, last, 4), q, api.ErrLarge)
		// The revision before allows one change.
		v := start(t, with(func(s *api.State) { s.Rev = 1<<40 - 1 }), 4)
		reply, d, is := v.Do(q)
		if reply != (api.Reply{Rev: 1 << 40}) || d.From != 1<<40-1 || d.To != 1<<40 || !is {
			t.Errorf("Do(%+v) = %+v, %+v, %t", q, reply, d, is)
		}
	}
	// What changes nothing is no matter, and other errors come first.
	v := start(t, last, 4)
	want(t, v, putJob(last.Jobs[0]), last, 4)
	want(t, v, putNode(last.Nodes[2]), last, 4)
	want(t, v, api.Request{Kind: api.Get}, last, 4)
	want(t, v, api.Request{Kind: api.Watch}, last, 4)
	want(t, v, tick(2), last, 6)
	wantError(t, v, tick(1), api.ErrLarge)
	want(t, v, tick(0), last, 6)
	wantError(t, v, tick(1<<40-5), api.ErrArg)
	wantError(t, v, tick(1<<40-6), api.ErrLarge)
	wantError(t, v, putJob(api.Job{Name: "a", Need: 9}), api.ErrRoom)
	wantError(t, v, putNode(api.Node{Name: "n"}), api.ErrRoom)
	wantError(t, v, delJob("x"), api.ErrNone)
	wantError(t, v, delNode("x"), api.ErrNone)
	wantError(t, v, free("c"), api.ErrNone)
	wantError(t, v, grant("a", "m", 9), api.ErrTwice)
	wantError(t, v, grant("c", "m", 6), api.ErrArg)
	wantError(t, v, grant("c", "n", 7), api.ErrRoom)
	wantError(t, v, putJob(api.Job{Name: ""}), api.ErrForm)
}

// Rules for all states and requests

// rows holds a state by the names of its rows.
type rows struct {
	jobs   map[string]api.Job
	nodes  map[string]api.Node
	leases map[string]api.Lease
}

// rowsOf returns the rows of a state.
func rowsOf(s api.State) rows {
	all := rows{map[string]api.Job{}, map[string]api.Node{}, map[string]api.Lease{}}
	for _, j := range s.Jobs {
		all.jobs[j.Name] = j
	}
	for _, n := range s.Nodes {
		all.nodes[n.Name] = n
	}
	for _, l := range s.Leases {
		all.leases[l.Job] = l
	}
	return all
}

// ordered returns the values of a table in the order of their keys.
func ordered[T any](table map[string]T) []T {
	var all []T
	for _, key := range slices.Sorted(maps.Keys(table)) {
		all = append(all, table[key])
	}
	return all
}

// state returns the state with the rows.
func (r rows) state(rev int) api.State {
	return api.State{Rev: rev, Jobs: ordered(r.jobs), Nodes: ordered(r.nodes), Leases: ordered(r.leases)}
}

// grantByRule follows the chapter.
func grantByRule(all rows, now int, l api.Lease) api.Errno {
	job, hasJob := all.jobs[l.Job]
	_, hasNode := all.nodes[l.Node]
	_, hasLease := all.leases[l.Job]
	switch {
	case !hasJob || !hasNode:
		return api.ErrNone
	case hasLease:
		return api.ErrTwice
	case !(l.Until > now):
		return api.ErrArg
	case job.Tries == 100:
		return api.ErrLarge
	}
	all.leases[l.Job] = l
	job.Tries++
	all.jobs[l.Job] = job
	return api.OK
}

// changeByRule changes rows as the chapter says, and returns the time after that.
func changeByRule(all rows, now int, q api.Request) (int, api.Errno) {
	missing := false
	switch q.Kind {
	case api.PutJob:
		all.jobs[q.Job.Name] = q.Job
	case api.PutNode:
		all.nodes[q.Node.Name] = q.Node
	case api.DelJob:
		_, ok := all.jobs[q.Name]
		missing = !ok
		delete(all.jobs, q.Name)
		delete(all.leases, q.Name)
	case api.DelNode:
		_, ok := all.nodes[q.Name]
		missing = !ok
		delete(all.nodes, q.Name)
		maps.DeleteFunc(all.leases, func(_ string, l api.Lease) bool { return l.Node == q.Name })
	case api.Grant:
		return now, grantByRule(all, now, q.Lease)
	case api.Free:
		_, ok := all.leases[q.Name]
		missing = !ok
		delete(all.leases, q.Name)
	case api.Tick:
		now += q.N
		if now > 1<<40 {
			return 0, api.ErrArg
		}
		maps.DeleteFunc(all.leases, func(_ string, l api.Lease) bool { return !(l.Until > now) })
	}
	if missing {
		return 0, api.ErrNone
	}
	return now, api.OK
}

// doByRule follows the chapter: it returns the state and the time after the request, and the Code.
func doByRule(s api.State, now int, q api.Request) (api.State, int, api.Errno) {
	if e := req.Check(q); e != api.OK {
		return s, now, e
	}
	all := rowsOf(s)
	then, e := changeByRule(all, now, q)
	if e != api.OK {
		return s, now, e
	}
	next := all.state(s.Rev)
	if e := state.Check(next); e != api.OK {
		return s, now, e
	}
	if same(next, s) {
		return s, then, api.OK
	}
	if next.Rev++; next.Rev > 1<<40 {
		return s, now, api.ErrLarge
	}
	return next, then, api.OK
}

// randomRequest returns a request that often suits a small state and a time.
func randomRequest(now int, r *rand.Rand) api.Request {
	names := []string{"a", "aa", "b", "c", "é"}
	name, other := names[r.Intn(5)], names[r.Intn(5)]
	switch 1 + r.Intn(11) {
	case api.PutJob:
		return putJob(api.Job{Name: name, Prio: r.Intn(2), Need: r.Intn(3), Tries: 98 + r.Intn(4), Tag: strings.Repeat("t", r.Intn(2))})
	case api.PutNode:
		return putNode(api.Node{Name: name, Room: r.Intn(6), Zone: strings.Repeat("z", r.Intn(2))})
	case api.DelJob:
		return delJob(name[:r.Intn(3)%(len(name)+1)])
	case api.DelNode:
		return delNode(name)
	case api.Free:
		return free(name)
	case api.Tick:
		if r.Intn(20) == 0 {
			return tick(1<<40 - r.Intn(10))
		}
		return tick(r.Intn(4))
	case api.Get:
		return api.Request{Kind: api.Get, N: r.Intn(2)}
	case api.Watch:
		return api.Request{Kind: api.Watch + r.Intn(2)}
	}
	return grant(name, other, min(now+r.Intn(6), 1<<40))
}

// enough checks that the random inputs lead to each of the results.
func enough(t *testing.T, seen map[api.Errno]int, results ...api.Errno) {
	t.Helper()
	for _, e := range results {
		if seen[e] < 50 {
			t.Errorf("only %d inputs have the result %d", seen[e], e)
		}
	}
}

// startRandom returns a server whose Rev, and sometimes its time, may reach the limits soon.
func startRandom(t *testing.T, r *rand.Rand) *Server {
	s, now := api.State{}, 0
	switch r.Intn(4) {
	case 0:
		s = sample()
	case 1:
		s.Rev = 1<<40 - 20
	case 2:
		s.Rev, now = 1<<40-30, 1<<40-10
	}
	return start(t, s, now)
}

func TestDoByRule(t *testing.T) {
	r := rand.New(rand.NewSource(12))
	seen, changes := map[api.Errno]int{}, 0
	for range 600 {
		v := startRandom(t, r)
		for range 80 {
			old, now := v.State(), v.Now()
			q := randomRequest(now, r)
			next, then, code := doByRule(old, now, q)
			seen[code]++
			var wantDelta api.Delta
			changed := !same(next, old)
			if changed {
				changes++
				wantDelta, _ = delta.Diff(old, next)
			}
			reply, d, is := v.Do(q)
			if reply != (api.Reply{Code: code, Rev: next.Rev}) || !sameDelta(d, wantDelta) || is != changed {
				t.Fatalf("Do(%+v) at %+v, %d = %+v, %+v, %t, want the code %d and %+v", q, old, now, reply, d, is, code, next)
			}
			if s := v.State(); !same(s, next) || v.Now() != then {
				t.Fatalf("Do(%+v) at %+v, %d leads to %+v, %d, want %+v, %d", q, old, now, s, v.Now(), next, then)
			}
			checkAfter(t, v, old, d, is)
		}
	}
	enough(t, seen, api.OK, api.ErrArg, api.ErrLarge, api.ErrForm, api.ErrNone, api.ErrTwice, api.ErrRoom)
	if changes < 5000 {
		t.Errorf("only %d changes", changes)
	}
}

// checkAfter checks that a server has a valid state, to which the delta leads.
func checkAfter(t *testing.T, v *Server, old api.State, d api.Delta, changed bool) {
	t.Helper()
	if e := state.Check(v.State()); e != api.OK {
		t.Fatalf("the state %+v has the error %d", v.State(), e)
	}
	if !changed {
		return
	}
	if s, e := delta.Apply(old, d); e != api.OK || !same(s, v.State()) {
		t.Fatalf("the delta %+v leads from %+v to %+v, error %d, want %+v", d, old, s, e, v.State())
	}
}

// P1

func TestNothingPanics(t *testing.T) {
	defer func() {
		if p := recover(); p != nil {
			t.Error(p)
		}
	}()
	long := strings.Repeat("\xff", 1<<20)
	states := []api.State{
		{Rev: math.MinInt}, {Rev: math.MaxInt},
		{Jobs: make([]api.Job, 1<<16)}, {Nodes: make([]api.Node, 1<<16)}, {Leases: make([]api.Lease, 1<<16)},
		{Jobs: []api.Job{{Name: long, Prio: math.MinInt, Need: math.MaxInt, Tries: math.MinInt, Tag: long}}},
	}
	for _, s := range states {
		if v, e := New(s); v != nil || e == api.OK {
			t.Errorf("New = %+v, %d", v, e)
		}
	}
	var all []api.Request
	for kind := -1; kind <= 11; kind++ {
		for _, n := range []int{math.MinInt, -1, 0, 1, 1 << 40, math.MaxInt} {
			for _, name := range []string{"", "a", long} {
				all = append(all,
					api.Request{Kind: kind}, api.Request{Kind: kind, Name: name}, api.Request{Kind: kind, N: n},
					api.Request{Kind: kind, Job: api.Job{Name: name, Prio: n, Need: n, Tries: n, Tag: name}},
					api.Request{Kind: kind, Node: api.Node{Name: name, Room: n, Zone: name}},
					api.Request{Kind: kind, Lease: api.Lease{Job: name, Node: name, Until: n}})
			}
		}
	}
	// A server that New has not made has no rows.
	for _, v := range []*Server{start(t, sample(), 0), start(t, fullState(), 0), start(t, api.State{Rev: 1 << 40}, 0), {}} {
		for _, q := range all {
			v.Do(q)
		}
		v.State()
		v.Now()
	}
}

// P2

// spare returns a copy of rows with unused capacity, which holds its first row.
func spare[T any](rows []T) []T {
	more := slices.Clone(rows)
	for range 5 {
		more = append(more, rows[0])
	}
	return more[:len(rows)]
}

// withSpare returns rows with their unused capacity, in memory of its own.
func withSpare[T any](rows []T) []T {
	return slices.Clone(rows[:cap(rows)])
}

// allOf returns a copy of a state with its unused capacity.
func allOf(s api.State) api.State {
	return api.State{Rev: s.Rev, Jobs: withSpare(s.Jobs), Nodes: withSpare(s.Nodes), Leases: withSpare(s.Leases)}
}

// requests holds requests that change sample, each in another way.
func requests() []api.Request {
	return []api.Request{
		putJob(api.Job{Name: "b", Need: 1}), putJob(api.Job{Name: "a", Need: 2}), putNode(api.Node{Name: "k", Room: 1}), putNode(api.Node{Name: "m", Room: 20}),
		grant("é", "m", 50), free("a"), grant("c", "m", 6), tick(6), delJob("bb"), delNode("n"), tick(50), delNode("m"),
	}
}

func TestArgumentsAreNotModified(t *testing.T) {
	s := sample()
	s = api.State{Rev: s.Rev, Jobs: spare(s.Jobs), Nodes: spare(s.Nodes), Leases: spare(s.Leases)}
	before := allOf(s)
	v := start(t, s, 0)
	for _, q := range requests() {
		if reply, _, changed := v.Do(q); reply.Code != api.OK || !changed {
			t.Errorf("Do(%+v) = %+v, %t", q, reply, changed)
		}
	}
	if !reflect.DeepEqual(allOf(s), before) {
		t.Error("the argument of New was modified")
	}
}

// spoil overwrites the rows of a state and what is behind them.
func spoil(s api.State) {
	clear(s.Jobs[:cap(s.Jobs)])
	clear(s.Nodes[:cap(s.Nodes)])
	clear(s.Leases[:cap(s.Leases)])
}

// A server keeps its state, whatever becomes of what it was given and of what it has returned.
func TestNothingIsRetained(t *testing.T) {
	s := sample()
	v, other := start(t, s, 0), start(t, sample(), 0)
	spoil(s)
	for i, q := range requests() {
		if !same(v.State(), other.State()) {
			t.Fatalf("before request %d the state is %+v, want %+v", i, v.State(), other.State())
		}
		spoil(v.State())
		reply, d, changed := v.Do(q)
		wantReply, wantDelta, wantChanged := other.Do(q)
		if reply != wantReply || !sameDelta(d, wantDelta) || changed != wantChanged {
			t.Errorf("request %d: Do = %+v, %+v, %t, want %+v, %+v, %t", i, reply, d, changed, wantReply, wantDelta, wantChanged)
		}
		spoil(api.State{Jobs: d.Jobs, Nodes: d.Nodes, Leases: d.Leases})
		clear(d.GoneJobs)
		clear(d.GoneNodes)
		clear(d.GoneLeases)
	}
}

// What a server has returned does not change with it.
func TestResultsStay(t *testing.T) {
	v := start(t, sample(), 0)
	var states, copies []api.State
	var deltas []api.Delta
	for _, q := range requests() {
		s := v.State()
		states, copies = append(states, s), append(copies, state.Copy(s))
		_, d, _ := v.Do(q)
		deltas = append(deltas, d)
	}
	for i, s := range states {
		if !same(s, copies[i]) {
			t.Errorf("state %d has become %+v, and was %+v", i, s, copies[i])
		}
		if i == 0 {
			continue
		}
		if next, e := delta.Apply(states[i-1], deltas[i-1]); e != api.OK || !same(next, s) {
			t.Errorf("delta %d leads to %+v, error %d, want %+v", i-1, next, e, s)
		}
	}
}

// Servers know nothing of each other, and calls leave nothing behind but the state and the time.
func TestResultsDependOnServerOnly(t *testing.T) {
	type result struct {
		reply   api.Reply
		d       api.Delta
		changed bool
		s       api.State
		now     int
	}
	do := func(v *Server, q api.Request) result {
		reply, d, changed := v.Do(q)
		return result{reply, d, changed, v.State(), v.Now()}
	}
	r := rand.New(rand.NewSource(13))
	a, b := start(t, sample(), 0), start(t, fullState(), 0)
	var all []api.Request
	var first []result
	for range 3000 {
		q := randomRequest(a.Now(), r)
		all, first = append(all, q), append(first, do(a, q))
		b.Do(randomRequest(b.Now(), r))
	}
	again := start(t, sample(), 0)
	for i, q := range all {
		// A server that starts with the state and the time of another one goes on like it.
		if i%100 == 0 {
			again = start(t, again.State(), again.Now())
		}
		if x := do(again, q); !reflect.DeepEqual(x, first[i]) {
			t.Fatalf("request %d, %+v: first %+v, then %+v", i, q, first[i], x)
		}
	}
}

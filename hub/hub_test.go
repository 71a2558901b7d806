package hub

import (
	"fmt"
	"math"
	"math/rand"
	"reflect"
	"slices"
	"strings"
	"testing"

	"bracken/api"
	"bracken/delta"
	"bracken/feed"
	"bracken/frame"
	"bracken/prim"
	"bracken/req"
	"bracken/serve"
	"bracken/state"
	"bracken/wire"
)

// sample returns a state with a lease, at a revision whose number has two bytes.
func sample() api.State {
	return api.State{
		Rev:    300,
		Jobs:   []api.Job{{Name: "a", Prio: -5, Need: 3, Tries: 1, Tag: "red"}, {Name: "bb", Need: 4}},
		Nodes:  []api.Node{{Name: "m", Room: 8, Zone: "west"}, {Name: "n", Room: 4}},
		Leases: []api.Lease{{Job: "a", Node: "m", Until: 128}},
	}
}

// fullState returns a state whose encoding is as long as possible.
func fullState() api.State {
	s := api.State{Rev: api.MaxTime - 1}
	for i := range api.MaxNodes {
		s.Nodes = append(s.Nodes, api.Node{Name: fmt.Sprintf("x%015d", i), Room: api.MaxCount, Zone: strings.Repeat("z", api.MaxText)})
	}
	for i := range api.MaxJobs {
		name := fmt.Sprintf("x%015d", i)
		s.Jobs = append(s.Jobs, api.Job{Name: name, Prio: -api.MaxPrio, Need: api.MaxCount / 2, Tries: api.MaxTries, Tag: strings.Repeat("t", api.MaxText)})
		s.Leases = append(s.Leases, api.Lease{Job: name, Node: s.Nodes[i/2].Name, Until: api.MaxTime})
	}
	return s
}

// The requests.

func putJob(j api.Job) api.Request   { return api.Request{Kind: api.PutJob, Job: j} }
func putNode(n api.Node) api.Request { return api.Request{Kind: api.PutNode, Node: n} }
func delJob(name string) api.Request { return api.Request{Kind: api.DelJob, Name: name} }
func free(job string) api.Request    { return api.Request{Kind: api.Free, Name: job} }
func tick(n int) api.Request         { return api.Request{Kind: api.Tick, N: n} }
func grant(job, node string, until int) api.Request {
	return api.Request{Kind: api.Grant, Lease: api.Lease{Job: job, Node: node, Until: until}}
}

var (
	get   = api.Request{Kind: api.Get}
	watch = api.Request{Kind: api.Watch}
)

// encoded returns the bytes of a frame.
func encoded(version, kind int, payload string) string {
	s, e := frame.Encode(api.Frame{Version: version, Kind: kind, Payload: payload})
	if e != api.OK {
		panic(e)
	}
	return s
}

// request returns the frames with requests.
func request(all ...api.Request) string {
	s := ""
	for _, q := range all {
		b, e := req.Encode(q)
		if e != api.OK {
			panic(e)
		}
		s += encoded(3, api.KRequest, b)
	}
	return s
}

// The frames that a hub sends.

func replies(code api.Errno, rev int) string {
	return encoded(3, api.KReply, prim.Number(uint64(code))+prim.Number(uint64(rev)))
}

func shows(s api.State) string {
	b, e := wire.Encode(s, 3)
	if e != api.OK {
		panic(e)
	}
	return encoded(3, api.KState, b)
}

func tells(from, to api.State) string {
	d, e := delta.Diff(from, to)
	b, f := delta.Encode(d)
	if e != api.OK || f != api.OK {
		panic(e)
	}
	return encoded(3, api.KDelta, b)
}

// same reports whether two states are equal; a nil slice equals an empty one.
func same(a, b api.State) bool {
	return a.Rev == b.Rev && slices.Equal(a.Jobs, b.Jobs) && slices.Equal(a.Nodes, b.Nodes) && slices.Equal(a.Leases, b.Leases)
}

// start returns a hub with the state s.
func start(t *testing.T, s api.State) *Hub {
	t.Helper()
	h, e := New(s)
	if e != api.OK {
		t.Fatalf("New(%+v): error %d", s, e)
	}
	return h
}

// list returns the frames in s, for messages.
func list(s string) string {
	frames, e := feed.New().Push(s)
	return fmt.Sprintf("%+v, error %d", frames, e)
}

// wantSend checks what Send returns.
func wantSend(t *testing.T, h *Hub, conn int, s, want string) {
	t.Helper()
	if out, e := h.Send(conn, s); out != want || e != api.OK {
		t.Errorf("Send(%d, %q) = %s, %d, want %s", conn, s, list(out), e, list(want))
	}
}

// wantOut checks what is waiting for a connection.
func wantOut(t *testing.T, h *Hub, conn int, want string) {
	t.Helper()
	if out, e := h.Out(conn); out != want || e != api.OK {
		t.Errorf("Out(%d) = %s, %d, want %s", conn, list(out), e, list(want))
	}
}

// wantOpen checks which connections are open.
func wantOpen(t *testing.T, h *Hub, closed ...int) {
	t.Helper()
	for conn := range api.MaxConns {
		want := !slices.Contains(closed, conn)
		if is, e := h.Open(conn); is != want || e != api.OK {
			t.Errorf("Open(%d) = %t, %d, want %t", conn, is, e, want)
		}
	}
}

// wantState checks the state of a hub.
func wantState(t *testing.T, h *Hub, want api.State) {
	t.Helper()
	if s := h.State(); !same(s, want) {
		t.Errorf("the state is %+v, want %+v", s, want)
	}
}

// after returns the state that requests lead to, all of which a server executes without an error.
func after(s api.State, all ...api.Request) api.State {
	v, e := serve.New(s)
	if e != api.OK {
		panic(e)
	}
	for _, q := range all {
		if r, _, _ := v.Do(q); r.Code != api.OK {
			panic(r.Code)
		}
	}
	return v.State()
}

// P24

func TestNew(t *testing.T) {
	for _, s := range []api.State{{}, {Rev: api.MaxTime}, sample(), fullState()} {
		h := start(t, s)
		wantState(t, h, s)
		wantOpen(t, h)
		for conn := range api.MaxConns {
			wantOut(t, h, conn, "")
			wantSend(t, h, conn, "", "")
		}
		wantState(t, h, s)
	}
}

func TestNewErrors(t *testing.T) {
	for code, s := range map[api.Errno]api.State{
		api.ErrArg:   {Rev: -1},
		api.ErrForm:  {Jobs: []api.Job{{}}},
		api.ErrOrder: {Jobs: []api.Job{{Name: "a"}, {Name: "a"}}},
		api.ErrNone:  {Leases: []api.Lease{{Job: "a", Node: "b"}}},
		api.ErrLarge: {Nodes: make([]api.Node, api.MaxNodes+1)},
		api.ErrRoom:  {Jobs: []api.Job{{Name: "a", Need: 1}}, Nodes: []api.Node{{Name: "b"}}, Leases: []api.Lease{{Job: "a", Node: "b"}}},
	} {
		if h, e := New(s); h != nil || e != code || e != state.Check(s) {
			t.Errorf("New(%+v) = %v, %d, want nil, %d", s, h, e, code)
		}
	}
}

// A request other than Get and Watch is answered with the reply alone.
func TestReplies(t *testing.T) {
	h := start(t, sample())
	wantSend(t, h, 0, request(putJob(api.Job{Name: "c", Need: 1})), replies(api.OK, 301))
	wantSend(t, h, 0, request(putJob(api.Job{Name: "c", Need: 1})), replies(api.OK, 301))
	wantSend(t, h, 7, request(putNode(api.Node{Name: "o", Room: 2})), replies(api.OK, 302))
	wantSend(t, h, 3, request(grant("c", "o", 9)), replies(api.OK, 303))
	wantSend(t, h, 3, request(tick(8)), replies(api.OK, 303))
	wantSend(t, h, 3, request(tick(1)), replies(api.OK, 304))
	wantSend(t, h, 1, request(free("a")), replies(api.OK, 305))
	wantSend(t, h, 1, request(delJob("a")), replies(api.OK, 306))
	wantSend(t, h, 1, request(api.Request{Kind: api.DelNode, Name: "m"}), replies(api.OK, 307))
	wantOpen(t, h)
	wantState(t, h, api.State{
		Rev:   307,
		Jobs:  []api.Job{{Name: "bb", Need: 4}, {Name: "c", Need: 1, Tries: 1}},
		Nodes: []api.Node{{Name: "n", Room: 4}, {Name: "o", Room: 2}},
	})
}

// An error of an operation is a reply like others: the connection stays open, and the frames behind it count.
func TestOperationErrors(t *testing.T) {
	h := start(t, sample())
	wantSend(t, h, 2, request(delJob("x")), replies(api.ErrNone, 300))
	wantSend(t, h, 2, request(grant("a", "m", 9)), replies(api.ErrTwice, 300))
	wantSend(t, h, 2, request(grant("bb", "m", 0)), replies(api.ErrArg, 300))
	wantSend(t, h, 2, request(putJob(api.Job{Name: "a", Need: 9})), replies(api.ErrRoom, 300))
	wantSend(t, h, 2, request(free("bb"), free("a"), free("a")), replies(api.ErrNone, 300)+replies(api.OK, 301)+replies(api.ErrNone, 301))
	wantOpen(t, h)

	h = start(t, api.State{Rev: api.MaxTime})
	wantSend(t, h, 2, request(putJob(api.Job{Name: "a"}), get), replies(api.ErrLarge, api.MaxTime)+replies(api.OK, api.MaxTime)+shows(api.State{Rev: api.MaxTime}))
	wantOpen(t, h)
}

// After Get a state frame follows, and nothing more when the state changes.
func TestGet(t *testing.T) {
	for _, s := range []api.State{{}, sample(), fullState()} {
		h := start(t, s)
		wantSend(t, h, 4, request(get), replies(api.OK, s.Rev)+shows(s))
		next := after(s, tick(1), putNode(api.Node{Name: fullState().Nodes[0].Name, Room: api.MaxCount}))
		wantSend(t, h, 4, request(putNode(api.Node{Name: fullState().Nodes[0].Name, Room: api.MaxCount})), replies(api.OK, s.Rev+1))
		wantSend(t, h, 3, request(get), replies(api.OK, s.Rev+1)+shows(next))
		wantOut(t, h, 4, "")
	}
}

// After Watch a state frame follows, and then a delta for each change, whoever makes it.
func TestWatch(t *testing.T) {
	h := start(t, sample())
	wantSend(t, h, 5, request(watch), replies(api.OK, 300)+shows(sample()))
	one := after(sample(), free("a"))
	wantSend(t, h, 1, request(free("a")), replies(api.OK, 301))
	wantOut(t, h, 5, tells(sample(), one))

	two := after(one, delJob("a"))
	wantSend(t, h, 5, request(delJob("a")), replies(api.OK, 302)+tells(one, two))

	// No change, no delta: an error, a repetition, time alone, and Get.
	wantSend(t, h, 5, request(delJob("a"), tick(3)), replies(api.ErrNone, 302)+replies(api.OK, 302))
	wantSend(t, h, 0, request(putNode(two.Nodes[0])), replies(api.OK, 302))
	wantSend(t, h, 0, request(get), replies(api.OK, 302)+shows(two))
	wantOut(t, h, 5, "")

	// Get and Watch again: a state each, and still one delta for a change.
	wantSend(t, h, 5, request(get, watch), replies(api.OK, 302)+shows(two)+replies(api.OK, 302)+shows(two))
	three := after(two, putJob(api.Job{Name: "a"}))
	wantSend(t, h, 5, request(putJob(api.Job{Name: "a"})), replies(api.OK, 303)+tells(two, three))
	wantState(t, h, three)
}

// The frames of one call are processed one by one: everything that a request leads to is sent before the next reply.
func TestFramesOneByOne(t *testing.T) {
	h := start(t, sample())
	wantSend(t, h, 6, request(watch), replies(api.OK, 300)+shows(sample()))
	job := putJob(api.Job{Name: "b"})
	one := after(sample(), free("a"))
	two := after(one, job)
	three := after(two, delJob("b"))
	wantSend(t, h, 2, request(free("a"), get, job, watch, job, delJob("b")),
		replies(api.OK, 301)+replies(api.OK, 301)+shows(one)+
			replies(api.OK, 302)+replies(api.OK, 302)+shows(two)+
			replies(api.OK, 302)+replies(api.OK, 303)+tells(two, three))
	wantOut(t, h, 6, tells(sample(), one)+tells(one, two)+tells(two, three))
	wantState(t, h, three)
}

// A delta goes to all connections that watch, to those before the sender's and to those behind it.
func TestDeltaToAllThatWatch(t *testing.T) {
	for sender := range api.MaxConns {
		h := start(t, sample())
		for conn := range api.MaxConns {
			if conn%3 != 1 {
				wantSend(t, h, conn, request(watch), replies(api.OK, 300)+shows(sample()))
			}
		}
		told := tells(sample(), after(sample(), free("a")))
		want := replies(api.OK, 301)
		if sender%3 != 1 {
			want += told
		}
		wantSend(t, h, sender, request(free("a")), want)
		for conn := range api.MaxConns {
			want := ""
			if conn != sender && conn%3 != 1 {
				want = told
			}
			wantOut(t, h, conn, want)
		}
	}
}

// The longest states and deltas are no exception.
func TestLongFrames(t *testing.T) {
	full := fullState()
	h := start(t, full)
	wantSend(t, h, 1, request(watch), replies(api.OK, full.Rev)+shows(full))
	next := after(full, tick(api.MaxTime))
	if len(next.Leases) != 0 {
		t.Fatal("the leases are still there")
	}
	wantSend(t, h, 0, request(tick(api.MaxTime)), replies(api.OK, api.MaxTime))
	wantOut(t, h, 1, tells(full, next))
	wantSend(t, h, 0, request(get), replies(api.OK, api.MaxTime)+shows(next))
}

// notRequests holds frames that do not have version 3 and the kind of a request, with payloads that do not matter.
func notRequests() []string {
	var all []string
	for _, payload := range []string{"\x08", "", "\x00", "\xff", strings.Repeat("p", api.MaxPayload)} {
		for version := 1; version <= api.MaxVersion; version++ {
			for kind := api.KState; kind <= api.KReply; kind++ {
				if version != 3 || kind != api.KRequest {
					all = append(all, encoded(version, kind, payload))
				}
			}
		}
	}
	return all
}

// closes checks that s, sent by a connection, is answered with before and an error, that it closes the connection, and that what follows is ignored.
func closes(t *testing.T, s string, code api.Errno) {
	t.Helper()
	h := start(t, sample())
	wantSend(t, h, 7, request(watch), replies(api.OK, 300)+shows(sample()))
	wantSend(t, h, 3, request(watch), replies(api.OK, 300)+shows(sample()))
	next := after(sample(), free("a"))
	change, told := request(free("a")), replies(api.OK, 301)+tells(sample(), next)
	wantSend(t, h, 3, change+s+request(delJob("a"), watch), told+replies(code, 301))
	wantOpen(t, h, 3)
	wantState(t, h, next)
	wantOut(t, h, 7, tells(sample(), next))

	// A closed connection has done with watching.
	last := after(next, delJob("a"))
	wantSend(t, h, 2, request(delJob("a")), replies(api.OK, 302))
	wantOut(t, h, 3, "")
	wantOut(t, h, 7, tells(next, last))
	if out, e := h.Send(3, request(get)); out != "" || e != api.ErrNone {
		t.Errorf("Send on a closed connection = %s, %d", list(out), e)
	}
	wantOpen(t, h, 3)
	wantState(t, h, last)
}

func TestNotARequest(t *testing.T) {
	for _, s := range notRequests() {
		closes(t, s, api.ErrArg)
		// One error is enough: neither what is no frame nor what is no request leads to another one.
		closes(t, s+"x", api.ErrArg)
		closes(t, s+encoded(3, api.KRequest, ""), api.ErrArg)
		closes(t, s+s, api.ErrArg)
	}
}

// invalidRequests holds payloads that are no requests.
func invalidRequests() map[api.Errno][]string {
	return map[api.Errno][]string{
		api.ErrShort: {"", "\x80", "\x01", "\x03", "\x03\x02a", "\x05\x01a\x01m", "\x07"},
		api.ErrArg:   {"\x00", "\x0a", "\x7f", "\x80\x01", "\x07" + prim.Number(1<<40+1), "\x05\x01a\x01m" + prim.Number(1<<40+1)},
		api.ErrForm:  {"\x08\x00", "\x09\x09", "\x03\x00", "\x06\x00", "\x03\x01ab", "\x88\x00", "\x01\x00\x00\x00\x00\x00"},
		api.ErrLarge: {"\x03" + prim.Number(api.MaxText+1) + strings.Repeat("a", api.MaxText+1), "\x07" + prim.Number(1<<62+1)},
	}
}

func TestInvalidRequests(t *testing.T) {
	for code, payloads := range invalidRequests() {
		for _, payload := range payloads {
			if _, e := req.Decode(payload); e != code {
				t.Fatalf("req.Decode(%q) has the error %d, want %d", payload, e, code)
			}
			s := encoded(3, api.KRequest, payload)
			closes(t, s, code)
			closes(t, s+"x", code)
			closes(t, s+notRequests()[0], code)
		}
	}
}

// broken holds what is no frame.
func broken() map[api.Errno][]string {
	whole := request(get)
	return map[api.Errno][]string{
		api.ErrForm:  {"x", "BX", "b", "\x00", "BK\x03\x03\x80\x00"},
		api.ErrArg:   {"BK\x00", "BK\x04", "BK\x03\x00", "BK\x03\x05"},
		api.ErrLarge: {"BK\x03\x03" + prim.Number(api.MaxPayload+1), "BK\x03\x03" + prim.Number(1<<40)},
		api.ErrSum:   {whole[:len(whole)-1] + string([]byte{whole[len(whole)-1] ^ 1}), whole[:5] + "\x09" + whole[6:]},
	}
}

// The frames before the failure of a feed are processed, then its error is sent.
func TestFailureOfFeed(t *testing.T) {
	for code, all := range broken() {
		for _, s := range all {
			if _, e := feed.New().Push(s); e != code {
				t.Fatalf("%q fails with %d, want %d", s, e, code)
			}
			h := start(t, sample())
			wantSend(t, h, 2, s, replies(code, 300))
			wantOpen(t, h, 2)
			closes(t, s, code)
			// The failure comes after everything else, deltas too, and counts the changes before it.
			h = start(t, sample())
			next := after(sample(), free("a"))
			wantSend(t, h, 0, request(watch, free("a"), get)+s,
				replies(api.OK, 300)+shows(sample())+replies(api.OK, 301)+tells(sample(), next)+replies(api.OK, 301)+shows(next)+replies(code, 301))
			wantOpen(t, h, 0)
			wantState(t, h, next)
		}
	}
}

// A part of a frame is answered with nothing, and stays what it is while others send.
func TestParts(t *testing.T) {
	h := start(t, sample())
	next := after(sample(), free("a"))
	s := request(free("a"))
	for i := range s {
		want := ""
		if i == len(s)-1 {
			want = replies(api.OK, 301)
		}
		wantState(t, h, sample())
		wantSend(t, h, 6, s[i:i+1], want)
		wantSend(t, h, 1, "", "")
		wantOpen(t, h)
	}
	wantState(t, h, next)
	// Two connections in the midst of a frame, with different bytes missing.
	a, b := request(delJob("a")), request(putNode(api.Node{Name: "k"}))
	wantSend(t, h, 0, a[:7], "")
	wantSend(t, h, 1, b[:9], "")
	wantSend(t, h, 0, a[7:], replies(api.OK, 302))
	wantSend(t, h, 1, b[9:]+b[:3], replies(api.OK, 303))
	wantSend(t, h, 1, b[3:], replies(api.OK, 303))
	wantOpen(t, h)
}

func TestSendErrors(t *testing.T) {
	h := start(t, sample())
	for _, conn := range []int{-1, 8, 9, math.MinInt, math.MaxInt} {
		for _, s := range []string{"", "x", request(free("a"))} {
			if out, e := h.Send(conn, s); out != "" || e != api.ErrArg {
				t.Errorf("Send(%d, %q) = %q, %d", conn, s, out, e)
			}
		}
	}
	wantOpen(t, h)
	wantState(t, h, sample())
	wantSend(t, h, 4, "x", replies(api.ErrForm, 300))
	for _, s := range []string{"", "x", request(free("a"))} {
		if out, e := h.Send(4, s); out != "" || e != api.ErrNone {
			t.Errorf("Send(4, %q) = %q, %d", s, out, e)
		}
	}
	wantOpen(t, h, 4)
	wantState(t, h, sample())
	wantSend(t, h, 5, request(free("a")), replies(api.OK, 301))
}

// A client cannot disturb others: when one connection is closed, the others go on.
func TestOthersGoOn(t *testing.T) {
	h := start(t, sample())
	var closed []int
	for conn := range api.MaxConns {
		wantSend(t, h, conn, "BK"+request(get), replies(api.ErrArg, 300))
		closed = append(closed, conn)
		wantOpen(t, h, closed...)
		if conn < api.MaxConns-1 {
			wantSend(t, h, conn+1, request(get), replies(api.OK, 300)+shows(sample()))
		}
	}
	wantState(t, h, sample())
}

// P25

func TestExampleOfX(t *testing.T) {
	h := start(t, api.State{})
	wantSend(t, h, 0, "x", "BK\x03\x04\x02\x04\x00"+sum("BK\x03\x04\x02\x04\x00"))
	wantOpen(t, h, 0)
}

// sum returns the four bytes of a checksum.
func sum(s string) string {
	n := prim.Sum(s)
	return string([]byte{byte(n >> 24), byte(n >> 16), byte(n >> 8), byte(n)})
}

// The Rev of the replies for errors of the encoding is that of the state.
func TestRevOfErrors(t *testing.T) {
	for _, rev := range []int{0, 1, 127, 128, 1 << 20, api.MaxTime} {
		h := start(t, api.State{Rev: rev})
		wantSend(t, h, 0, "x", replies(api.ErrForm, rev))
		wantSend(t, h, 1, encoded(3, api.KRequest, ""), replies(api.ErrShort, rev))
		wantSend(t, h, 2, encoded(2, api.KRequest, "\x08"), replies(api.ErrArg, rev))
		if rev == api.MaxTime {
			continue
		}
		wantSend(t, h, 3, request(putJob(api.Job{Name: "a"})), replies(api.OK, rev+1))
		wantSend(t, h, 4, "x", replies(api.ErrForm, rev+1))
		wantSend(t, h, 5, encoded(3, api.KRequest, ""), replies(api.ErrShort, rev+1))
		wantSend(t, h, 6, encoded(2, api.KRequest, "\x08"), replies(api.ErrArg, rev+1))
	}
}

// What others have led to waits until the connection sends or asks for it, and is returned once.
func TestWaiting(t *testing.T) {
	h := start(t, sample())
	wantSend(t, h, 5, request(watch), replies(api.OK, 300)+shows(sample()))
	wantSend(t, h, 6, request(watch), replies(api.OK, 300)+shows(sample()))
	one := after(sample(), free("a"))
	two := after(one, delJob("a"))
	three := after(two, delJob("bb"))
	wantSend(t, h, 0, request(free("a")), replies(api.OK, 301))
	wantSend(t, h, 0, request(delJob("a")), replies(api.OK, 302))
	wantSend(t, h, 5, request(delJob("bb")), tells(sample(), one)+tells(one, two)+replies(api.OK, 303)+tells(two, three))
	wantSend(t, h, 5, "", "")
	wantOut(t, h, 5, "")
	wantOut(t, h, 6, tells(sample(), one)+tells(one, two)+tells(two, three))
	wantOut(t, h, 6, "")

	// The bytes that wait come with no bytes, with a part of a frame, and before an error that closes the connection.
	four := after(three, putNode(api.Node{Name: "k"}))
	wantSend(t, h, 0, request(putNode(api.Node{Name: "k"})), replies(api.OK, 304))
	wantSend(t, h, 5, "", tells(three, four))
	wantSend(t, h, 6, request(get)[:4], tells(three, four))
	five := after(four, putNode(api.Node{Name: "k", Room: 1}))
	wantSend(t, h, 0, request(putNode(api.Node{Name: "k", Room: 1})), replies(api.OK, 305))
	wantSend(t, h, 5, "x", tells(four, five)+replies(api.ErrForm, 305))
	wantOut(t, h, 5, "")
	wantOut(t, h, 6, tells(four, five))
	wantOpen(t, h, 5)
}

// What waits for a connection stays when others are closed, and when a call has an error.
func TestWaitingStays(t *testing.T) {
	h := start(t, sample())
	wantSend(t, h, 1, request(watch), replies(api.OK, 300)+shows(sample()))
	wantSend(t, h, 0, request(free("a"))+"x", replies(api.OK, 301)+replies(api.ErrForm, 301))
	h.Send(0, request(get))
	h.Send(8, request(get))
	h.Out(8)
	h.Open(1)
	h.State()
	wantOut(t, h, 1, tells(sample(), after(sample(), free("a"))))
}

func TestOutAndOpenErrors(t *testing.T) {
	h := start(t, sample())
	for _, conn := range []int{-1, 8, 9, math.MinInt, math.MaxInt} {
		if out, e := h.Out(conn); out != "" || e != api.ErrArg {
			t.Errorf("Out(%d) = %q, %d", conn, out, e)
		}
		if is, e := h.Open(conn); is || e != api.ErrArg {
			t.Errorf("Open(%d) = %t, %d", conn, is, e)
		}
	}
	wantOpen(t, h)
}

// P26

// watching returns acts that lead to bytes on several connections, some of which only wait there.
func watching() []api.Act {
	return []api.Act{
		{Conn: 3, Bytes: request(watch)},
		{Conn: 5, Bytes: request(watch)},
		{Conn: 3, Bytes: request(free("a"))[:6]},
		{Conn: 0, Bytes: request(delJob("bb"))},
		{Conn: 3, Bytes: request(free("a"))[6:] + request(free("a"))},
		{Conn: 9, Bytes: request(delJob("a"))},
		{Conn: -1, Bytes: request(delJob("a"))},
		{Conn: 5, Bytes: "x" + request(delJob("a"))},
		{Conn: 5, Bytes: request(delJob("a"))},
		{Conn: 7, Bytes: request(delJob("a"))},
	}
}

func TestPlay(t *testing.T) {
	one := after(sample(), delJob("bb"))
	two := after(one, free("a"))
	three := after(two, delJob("a"))
	want := make([]string, 8)
	want[0] = replies(api.OK, 301)
	want[3] = replies(api.OK, 300) + shows(sample()) + tells(sample(), one) + replies(api.OK, 302) + tells(one, two) + replies(api.ErrNone, 302) + tells(two, three)
	want[5] = replies(api.OK, 300) + shows(sample()) + tells(sample(), one) + tells(one, two) + replies(api.ErrForm, 302)
	want[7] = replies(api.OK, 303)
	if out, e := Play(sample(), watching()); !slices.Equal(out, want) || e != api.OK {
		t.Errorf("Play = %q, %d, want %q", out, e, want)
	}
	for _, acts := range [][]api.Act{nil, {}, {{Conn: 8, Bytes: request(get)}}, {{Conn: 2}}} {
		if out, e := Play(sample(), acts); !slices.Equal(out, make([]string, 8)) || e != api.OK {
			t.Errorf("Play of %+v = %q, %d", acts, out, e)
		}
	}
}

// repeated returns acts of one connection, each with the same request.
func repeated(count int) []api.Act {
	return slices.Repeat([]api.Act{{Conn: 1, Bytes: request(get)}}, count)
}

func TestPlayErrors(t *testing.T) {
	out, e := Play(api.State{}, repeated(api.MaxActs))
	if want := strings.Repeat(replies(api.OK, 0)+shows(api.State{}), 60); len(out) != 8 || out[1] != want || e != api.OK {
		t.Errorf("Play of 60 acts = %q, %d", out, e)
	}
	invalid := api.State{Rev: -1}
	for _, x := range []struct {
		s    api.State
		acts []api.Act
		want api.Errno
	}{
		{api.State{}, repeated(61), api.ErrLarge},
		{sample(), make([]api.Act, 1000), api.ErrLarge},
		{sample(), slices.Repeat([]api.Act{{Conn: 8}}, 61), api.ErrLarge},
		{invalid, nil, api.ErrArg},
		{invalid, repeated(61), api.ErrArg},
		{api.State{Nodes: make([]api.Node, 21)}, repeated(3), api.ErrLarge},
		{api.State{Jobs: []api.Job{{}}}, repeated(61), api.ErrForm},
	} {
		if out, e := Play(x.s, x.acts); out != nil || e != x.want {
			t.Errorf("Play of %d acts with %+v = %q, %d, want %d", len(x.acts), x.s, out, e, x.want)
		}
	}
}

// By the rules

// model is a hub that follows the chapter word by word: it holds all that was received and sent.
type model struct {
	server          *serve.Server
	received, sent  [8]string
	decoded, taken  [8]int
	closed, watches [8]bool
	seen            map[api.Errno]int // the codes of the replies
}

// newModel returns the model of a hub with the state s.
func newModel(t *testing.T, s api.State, seen map[api.Errno]int) *model {
	t.Helper()
	v, e := serve.New(s)
	if e != api.OK {
		t.Fatal(e)
	}
	return &model{server: v, seen: seen}
}

// send does what Send does.
func (m *model) send(conn int, s string) (string, api.Errno) {
	if conn < 0 || conn > 7 {
		return "", api.ErrArg
	}
	if m.closed[conn] {
		return "", api.ErrNone
	}
	m.received[conn] += s
	for !m.closed[conn] {
		f, size, e := frame.Decode(m.received[conn][m.decoded[conn]:])
		if e == api.ErrShort {
			break
		}
		m.decoded[conn] += size
		if e == api.OK {
			e = m.process(conn, f)
		}
		if e != api.OK {
			m.reply(conn, api.Reply{Code: e, Rev: m.server.State().Rev})
			m.closed[conn] = true
		}
	}
	return m.out(conn), api.OK
}

// out does what Out does.
func (m *model) out(conn int) string {
	s := m.sent[conn][m.taken[conn]:]
	m.taken[conn] = len(m.sent[conn])
	return s
}

// reply sends a reply frame.
func (m *model) reply(conn int, r api.Reply) {
	m.seen[r.Code]++
	m.sent[conn] += replies(r.Code, r.Rev)
}

// process does what a frame asks for, and returns the error of its encoding.
func (m *model) process(conn int, f api.Frame) api.Errno {
	if f.Version != 3 || f.Kind != 3 {
		return api.ErrArg
	}
	q, e := req.Decode(f.Payload)
	if e != api.OK {
		return e
	}
	old := m.server.State()
	r, _, _ := m.server.Do(q)
	next := m.server.State()
	m.reply(conn, r)
	if q.Kind == api.Get || q.Kind == api.Watch {
		m.sent[conn] += shows(next)
	}
	if q.Kind == api.Watch {
		m.watches[conn] = true
	}
	for i := range 8 {
		if m.watches[i] && !m.closed[i] && !same(old, next) {
			m.sent[i] += tells(old, next)
		}
	}
	return api.OK
}

// randomRequest returns a valid request that often suits a small state.
func randomRequest(r *rand.Rand) api.Request {
	names := []string{"a", "bb", "c", "m", "n"}
	name, other := names[r.Intn(5)], names[r.Intn(5)]
	switch 1 + r.Intn(11) {
	case api.PutJob:
		return putJob(api.Job{Name: name, Prio: r.Intn(2), Need: r.Intn(3), Tries: 99 + r.Intn(2), Tag: strings.Repeat("t", r.Intn(2))})
	case api.PutNode:
		return putNode(api.Node{Name: name, Room: r.Intn(6), Zone: strings.Repeat("z", r.Intn(2))})
	case api.DelJob:
		return delJob(name)
	case api.DelNode:
		return api.Request{Kind: api.DelNode, Name: name}
	case api.Free:
		return free(name)
	case api.Tick:
		return tick(r.Intn(3))
	case api.Get:
		return get
	case api.Watch:
		return watch
	}
	return grant(name, other, r.Intn(30))
}

// damaged returns bytes that close a connection.
func damaged(r *rand.Rand) string {
	code := api.Errno(1 + r.Intn(5))
	switch all, invalid := broken()[code], invalidRequests()[code]; {
	case r.Intn(3) == 0:
		return notRequests()[r.Intn(22)]
	case len(all) > 0 && r.Intn(2) == 0:
		return all[r.Intn(len(all))]
	case len(invalid) > 0:
		return encoded(3, api.KRequest, invalid[r.Intn(len(invalid))])
	}
	s := request(get)
	at := r.Intn(len(s))
	return s[:at] + string([]byte{s[at] + 1 + byte(r.Intn(255))}) + s[at+1:]
}

// randomStream returns what a client sends.
func randomStream(r *rand.Rand) string {
	s := ""
	for range 1 + r.Intn(30) {
		s += request(randomRequest(r))
	}
	if r.Intn(2) == 0 {
		s += damaged(r) + request(randomRequest(r))
	}
	return s
}

// randomPiece takes a piece from the beginning of a stream: a few bytes or a few frames.
func randomPiece(stream *string, r *rand.Rand) string {
	size := min(r.Intn([]int{3, 20, 200}[r.Intn(3)]), len(*stream))
	piece := (*stream)[:size]
	*stream = (*stream)[size:]
	return piece
}

// randomState returns a state from which much can happen.
func randomState(r *rand.Rand) api.State {
	switch r.Intn(4) {
	case 0:
		return sample()
	case 1:
		return api.State{Rev: api.MaxTime - 5}
	}
	return api.State{Rev: r.Intn(200)}
}

// enough checks that the random inputs lead to each of the results.
func enough(t *testing.T, seen map[api.Errno]int, results ...api.Errno) {
	t.Helper()
	for _, e := range results {
		if seen[e] < 50 {
			t.Errorf("only %d inputs have the result %d", seen[e], e)
		}
	}
}

func TestHubByRule(t *testing.T) {
	r := rand.New(rand.NewSource(14))
	seen, results := map[api.Errno]int{}, map[api.Errno]int{}
	for range 300 {
		s := randomState(r)
		h, m := start(t, s), newModel(t, s, seen)
		streams := make([]string, 10)
		for i := range streams {
			streams[i] = randomStream(r)
		}
		for range 150 {
			conn := r.Intn(10) - 1
			piece := randomPiece(&streams[conn+1], r)
			want, code := m.send(conn, piece)
			results[code]++
			if out, e := h.Send(conn, piece); out != want || e != code {
				t.Fatalf("Send(%d, %q) = %s, %d, want %s, %d", conn, piece, list(out), e, list(want), code)
			}
			if other := r.Intn(8); r.Intn(3) == 0 {
				wantOut(t, h, other, m.out(other))
			}
			for i := range 8 {
				if is, e := h.Open(i); is != !m.closed[i] || e != api.OK {
					t.Fatalf("Open(%d) = %t, %d after %q on %d", i, is, e, piece, conn)
				}
			}
			if !same(h.State(), m.server.State()) {
				t.Fatalf("the state is %+v, want %+v", h.State(), m.server.State())
			}
		}
		for i := range 8 {
			wantOut(t, h, i, m.out(i))
		}
	}
	enough(t, results, api.OK, api.ErrArg, api.ErrNone)
	enough(t, seen, api.OK, api.ErrArg, api.ErrLarge, api.ErrShort, api.ErrForm, api.ErrSum, api.ErrNone, api.ErrTwice, api.ErrRoom)
}

// Play returns what Send and Out would.
func TestPlayByRule(t *testing.T) {
	r := rand.New(rand.NewSource(15))
	seen := map[api.Errno]int{}
	for range 600 {
		s := randomState(r)
		streams := make([]string, 10)
		for i := range streams {
			streams[i] = randomStream(r)
		}
		var acts []api.Act
		m := newModel(t, s, seen)
		for range r.Intn(api.MaxActs + 1) {
			conn := r.Intn(10) - 1
			acts = append(acts, api.Act{Conn: conn, Bytes: randomPiece(&streams[conn+1], r)})
			m.send(conn, acts[len(acts)-1].Bytes)
		}
		if out, e := Play(s, acts); !slices.Equal(out, m.sent[:]) || e != api.OK {
			t.Fatalf("Play(%+v, %+v) = %q, %d, want %q", s, acts, out, e, m.sent)
		}
	}
	enough(t, seen, api.OK, api.ErrArg, api.ErrLarge, api.ErrForm, api.ErrNone)
}

// The result does not depend on how a stream is divided.
func TestDivision(t *testing.T) {
	r := rand.New(rand.NewSource(16))
	for range 100 {
		s, stream := randomState(r), randomStream(r)
		whole := start(t, s)
		want, e := whole.Send(2, stream)
		if e != api.OK {
			t.Fatal(e)
		}
		wantIs, _ := whole.Open(2)
		for _, piece := range []func() int{func() int { return 1 }, func() int { return r.Intn(9) }, func() int { return r.Intn(99) }} {
			h, out, is := start(t, s), "", true
			for rest := stream; rest != "" && is; {
				size := min(piece(), len(rest))
				more, e := h.Send(2, rest[:size])
				if e != api.OK {
					t.Fatalf("error %d before the end of %q", e, stream)
				}
				out, rest = out+more, rest[size:]
				is, _ = h.Open(2)
			}
			if out != want || is != wantIs || !same(h.State(), whole.State()) {
				t.Fatalf("%q in pieces leads to %s, %t, %+v, want %s, %t, %+v", stream, list(out), is, h.State(), list(want), wantIs, whole.State())
			}
		}
	}
}

// client reconstructs the state from the frames of a connection.
func client(t *testing.T, s string) api.State {
	t.Helper()
	frames, e := feed.New().Push(s)
	var state api.State
	for _, f := range frames {
		switch f.Kind {
		case api.KState:
			state, e = wire.Decode(f.Payload, f.Version)
		case api.KDelta:
			d, _ := delta.Decode(f.Payload)
			state, e = delta.Apply(state, d)
		}
		if e != api.OK {
			t.Fatalf("error %d of %+v", e, f)
		}
	}
	return state
}

// A client that watches has the state of the server.
func TestClientsHaveTheState(t *testing.T) {
	r := rand.New(rand.NewSource(17))
	for range 100 {
		h := start(t, randomState(r))
		var got [api.MaxConns]string
		for range 100 {
			conn := r.Intn(api.MaxConns)
			out, _ := h.Send(conn, request(randomRequest(r)))
			got[conn] += out
		}
		for conn := range got {
			out, _ := h.Out(conn)
			got[conn] += out
			more, e := h.Send(conn, request(watch, putJob(api.Job{Name: "new", Prio: conn})))
			if s := client(t, got[conn]+more); e != api.OK || !same(s, h.State()) {
				t.Fatalf("the client %d has %+v, the server %+v", conn, s, h.State())
			}
			got[conn] += more
		}
		for conn := range got {
			out, _ := h.Out(conn)
			if s := client(t, got[conn]+out); !same(s, h.State()) {
				t.Fatalf("in the end the client %d has %+v, the server %+v", conn, s, h.State())
			}
		}
	}
}

// P1

func TestNothingPanics(t *testing.T) {
	defer func() {
		if p := recover(); p != nil {
			t.Error(p)
		}
	}()
	streams := append(notRequests()[:30], "", "B", "BK", strings.Repeat("BK", 1<<20), strings.Repeat("\xff", 1<<20), strings.Repeat(request(get), 300), request(putJob(api.Job{Name: "z"}), delJob("z")))
	for _, payloads := range invalidRequests() {
		for _, payload := range payloads {
			streams = append(streams, encoded(3, api.KRequest, payload))
		}
	}
	for _, all := range broken() {
		streams = append(streams, all...)
	}
	conns := []int{math.MinInt, -1, 0, 1, 6, 7, 8, math.MaxInt}
	var acts []api.Act
	for _, s := range streams {
		// All connections of a hub that New has not made are closed.
		for _, h := range []*Hub{start(t, sample()), start(t, fullState()), start(t, api.State{Rev: api.MaxTime}), {}} {
			for range 2 {
				for _, conn := range conns {
					h.Send(conn, s)
					h.Open(conn)
					h.Out(conn)
				}
			}
			h.State()
		}
		for _, conn := range conns {
			acts = append(acts, api.Act{Conn: conn, Bytes: s})
		}
	}
	for _, s := range []api.State{{}, sample(), fullState(), {Rev: math.MinInt}, {Rev: math.MaxInt}, {Jobs: make([]api.Job, 1<<16)}} {
		New(s)
		Play(s, acts)
		Play(s, nil)
		for chunk := range slices.Chunk(acts, 60) {
			Play(s, chunk)
		}
	}
}

// P2

// spare returns a copy of rows with unused capacity, which holds its first row.
func spare[T any](rows []T) []T {
	more := slices.Clone(rows)
	for range 5 {
		more = append(more, rows[0])
	}
	return more[:len(rows)]
}

// withSpare returns rows with their unused capacity, in memory of its own.
func withSpare[T any](rows []T) []T {
	return slices.Clone(rows[:cap(rows)])
}

// allOf returns a copy of a state with its unused capacity.
func allOf(s api.State) api.State {
	return api.State{Rev: s.Rev, Jobs: withSpare(s.Jobs), Nodes: withSpare(s.Nodes), Leases: withSpare(s.Leases)}
}

func TestArgumentsAreNotModified(t *testing.T) {
	s := sample()
	s = api.State{Rev: s.Rev, Jobs: spare(s.Jobs), Nodes: spare(s.Nodes), Leases: spare(s.Leases)}
	acts := spare(watching())
	before, actsBefore := allOf(s), withSpare(acts)
	h := start(t, s)
	for _, a := range acts {
		h.Send(a.Conn, a.Bytes)
	}
	if out, e := Play(s, acts); len(out) != 8 || e != api.OK {
		t.Errorf("Play = %q, %d", out, e)
	}
	if !reflect.DeepEqual(allOf(s), before) {
		t.Error("the state was modified")
	}
	if !slices.Equal(withSpare(acts), actsBefore) {
		t.Error("the acts were modified")
	}
}

// spoil overwrites the rows of a state and what is behind them.
func spoil(s api.State) {
	clear(s.Jobs[:cap(s.Jobs)])
	clear(s.Nodes[:cap(s.Nodes)])
	clear(s.Leases[:cap(s.Leases)])
}

// A hub keeps its state, whatever becomes of what it was given and of what it has returned.
func TestNothingIsRetained(t *testing.T) {
	s := sample()
	h, other := start(t, s), start(t, sample())
	spoil(s)
	for i, a := range watching() {
		wantState(t, h, other.State())
		spoil(h.State())
		out, e := h.Send(a.Conn, a.Bytes)
		if want, code := other.Send(a.Conn, a.Bytes); out != want || e != code {
			t.Errorf("act %d: Send = %s, %d, want %s, %d", i, list(out), e, list(want), code)
		}
	}
	wantState(t, h, other.State())
}

// What a hub has returned does not change with it.
func TestResultsStay(t *testing.T) {
	h := start(t, sample())
	var states, copies []api.State
	var outs, sameOuts []string
	keep := func(out string) {
		outs, sameOuts = append(outs, out), append(sameOuts, strings.Clone(out))
	}
	for _, a := range append(watching(), watching()...) {
		s := h.State()
		states, copies = append(states, s), append(copies, state.Copy(s))
		out, _ := h.Send(a.Conn, a.Bytes)
		keep(out)
		out, _ = h.Out(3)
		keep(out)
	}
	for i, s := range states {
		if !same(s, copies[i]) {
			t.Errorf("state %d has become %+v, and was %+v", i, s, copies[i])
		}
	}
	if !slices.Equal(outs, sameOuts) {
		t.Error("bytes that were returned have changed")
	}
	first, _ := Play(sample(), watching())
	kept := slices.Clone(first)
	second, _ := Play(sample(), watching())
	clear(second[:cap(second)])
	if third, _ := Play(sample(), watching()); !slices.Equal(first, kept) || !slices.Equal(third, kept) {
		t.Error("a result of Play depends on another one")
	}
}

// Hubs know nothing of each other.
func TestResultsDependOnHubOnly(t *testing.T) {
	r := rand.New(rand.NewSource(18))
	a, b := start(t, sample()), start(t, sample())
	var acts []api.Act
	var first []string
	for range 500 {
		x := api.Act{Conn: r.Intn(8), Bytes: request(randomRequest(r))}
		out, _ := a.Send(x.Conn, x.Bytes)
		acts, first = append(acts, x), append(first, out)
		b.Send(r.Intn(8), request(randomRequest(r)))
	}
	again := start(t, sample())
	for i, x := range acts {
		if out, e := again.Send(x.Conn, x.Bytes); out != first[i] || e != api.OK {
			t.Fatalf("act %d: first %s, then %s, %d", i, list(first[i]), list(out), e)
		}
	}
}

// Package rules tests the general rules of the document that concern every package alike. It has tests only.
package rules

import (
	"reflect"
	"strings"
	"testing"
	"unsafe"

	"bracken/api"
	"bracken/delta"
	"bracken/feed"
	"bracken/frame"
	"bracken/hub"
	"bracken/json"
	"bracken/prim"
	"bracken/req"
	"bracken/serve"
	"bracken/state"
	"bracken/up"
	"bracken/wire"
)

// span is a range of memory.
type span struct {
	first, end uintptr
}

// spans returns the memory that the strings and slices inside v, and behind its pointers, occupy, with the unused capacity of slices.
func spans(v reflect.Value) []span {
	var all []span
	switch v.Kind() {
	case reflect.String:
		if s := v.String(); s != "" {
			first := uintptr(unsafe.Pointer(unsafe.StringData(s)))
			all = append(all, span{first, first + uintptr(len(s))})
		}
	case reflect.Slice:
		if size := uintptr(v.Cap()) * v.Type().Elem().Size(); size > 0 {
			all = append(all, span{v.Pointer(), v.Pointer() + size})
		}
		for i := range v.Len() {
			all = append(all, spans(v.Index(i))...)
		}
	case reflect.Array:
		for i := range v.Len() {
			all = append(all, spans(v.Index(i))...)
		}
	case reflect.Struct:
		for i := range v.NumField() {
			all = append(all, spans(v.Field(i))...)
		}
	case reflect.Pointer:
		if !v.IsNil() {
			all = append(all, spans(v.Elem())...)
		}
	}
	return all
}

// shares reports whether two values have memory in common.
func shares(a, b any) bool {
	for _, x := range spans(reflect.ValueOf(a)) {
		for _, y := range spans(reflect.ValueOf(b)) {
			if x.first < y.end && y.first < x.end {
				return true
			}
		}
	}
	return false
}

// The tests below say nothing if shares does not find what is shared.
func TestSharesFinds(t *testing.T) {
	s := strings.Repeat("abc", 3)
	list := make([]string, 1, 4)
	for i, pair := range [][2]any{
		{s, s}, {s, s[4:]}, {s[:5], s[4:]},
		{api.Frame{Payload: s[2:4]}, s},
		{api.State{Jobs: []api.Job{{Tag: s}}}, s[8:]},
		{list, list[1:3]},
		{[2]string{"", s}, s}, {&s, s}, {struct{ *api.Frame }{&api.Frame{Payload: s}}, s},
	} {
		if !shares(pair[0], pair[1]) {
			t.Errorf("pair %d shares memory", i)
		}
	}
	for i, pair := range [][2]any{
		{s, strings.Clone(s)}, {s[:4], s[4:]}, {"", s}, {s[:0], s},
		{api.Frame{Payload: s}, api.Frame{Payload: strings.Clone(s)}},
		{list[0:1:1], list[1:]},
		{[2]string{"", s}, ""}, {(*string)(nil), s},
	} {
		if shares(pair[0], pair[1]) {
			t.Errorf("pair %d shares no memory", i)
		}
	}
}

// texts holds strings of all lengths that a text may have.
func texts() []string {
	var all []string
	for length := range api.MaxText + 1 {
		all = append(all, strings.Repeat("a", length))
	}
	return all
}

// P2

func TestPrimResultsAreNew(t *testing.T) {
	for _, s := range texts() {
		b, _ := prim.Text(s)
		if shares(s, b) {
			t.Errorf("Text(%q) shares memory with its argument", s)
		}
		whole := b + "tail"
		if u, _, e := prim.ReadText(whole); u != s || e != api.OK || shares(u, whole) {
			t.Errorf("ReadText(%q) = %q, %d, which may share memory with its argument", whole, u, e)
		}
	}
}

func TestFrameResultsAreNew(t *testing.T) {
	for _, payload := range append(texts(), strings.Repeat("p", api.MaxPayload)) {
		f := api.Frame{Version: 2, Kind: api.KDelta, Payload: payload}
		s, e := frame.Encode(f)
		if e != api.OK || shares(s, f) {
			t.Errorf("Encode of %d bytes: error %d, or it shares memory with its argument", len(payload), e)
		}
		whole := s + "tail"
		if g, _, e := frame.Decode(whole); g != f || e != api.OK || shares(g, whole) {
			t.Errorf("Decode of %d bytes: error %d, or it shares memory with its argument", len(payload), e)
		}
	}
}

func TestFeedResultsAreNew(t *testing.T) {
	for _, payload := range append(texts()[1:], strings.Repeat("p", api.MaxPayload)) {
		s, e := frame.Encode(api.Frame{Version: 1, Kind: api.KState, Payload: payload})
		if e != api.OK {
			t.Fatal(e)
		}
		f := feed.New()
		stream := strings.Repeat(s, 5)
		var earlier [][]api.Frame
		// Ends inside a frame, at its end, and inside the next one but one.
		for _, piece := range []string{stream[:3], stream[3:5], stream[5 : len(s)+7], stream[len(s)+7 : 2*len(s)], stream[2*len(s):], s + s[:4]} {
			frames, e := f.Push(piece)
			if e != api.OK || shares(frames, piece) || shares(*f, piece) || shares(*f, frames) {
				t.Errorf("Push of %d bytes: error %d, or memory is shared", len(piece), e)
			}
			for i := range frames {
				if shares(frames[i], frames[:i]) {
					t.Errorf("frame %d shares memory with one before it", i)
				}
			}
			for _, other := range earlier {
				if shares(frames, other) {
					t.Error("a result shares memory with one before it")
				}
			}
			earlier = append(earlier, frames)
		}
		if f.Left() != 4 || f.At() != 6*len(s) {
			t.Errorf("Left and At are %d and %d", f.Left(), f.At())
		}
	}
}

// states holds states whose texts have all lengths, with leases and without them.
func states() []api.State {
	all := []api.State{{}, {Rev: 5}}
	for _, s := range texts()[1:] {
		all = append(all, api.State{
			Jobs:   []api.Job{{Name: s, Tag: s}, {Name: "b", Tag: s}},
			Nodes:  []api.Node{{Name: s, Zone: s}, {Name: "b", Zone: s}},
			Leases: []api.Lease{{Job: s, Node: s, Until: 3}, {Job: "b", Node: s}},
		})
	}
	return all
}

// sharesInside reports whether two strings or slices inside v have memory in common.
func sharesInside(v any) bool {
	all := spans(reflect.ValueOf(v))
	for i, x := range all {
		for _, y := range all[:i] {
			if x.first < y.end && y.first < x.end {
				return true
			}
		}
	}
	return false
}

func TestWireResultsAreNew(t *testing.T) {
	s := strings.Repeat("abc", 3)
	if !sharesInside(api.Node{Name: s, Zone: s[1:2]}) || sharesInside(api.Node{Name: s[:3], Zone: s[3:]}) {
		t.Fatal("sharesInside does not find what is shared")
	}
	for i, s := range states() {
		b, e := wire.Encode(s, 3)
		if e != api.OK || shares(b, s) {
			t.Errorf("Encode of state %d: error %d, or it shares memory with its argument", i, e)
		}
		f, e := wire.Frame(s, 3)
		if e != api.OK || shares(f, s) {
			t.Errorf("Frame of state %d: error %d, or it shares memory with its argument", i, e)
		}
		d, e := wire.Decode(b, 3)
		if e != api.OK || shares(d, b) || sharesInside(d) {
			t.Errorf("Decode of state %d: error %d, or memory is shared", i, e)
		}
		if again, _ := wire.Decode(b, 3); shares(d, again) {
			t.Errorf("Decode of state %d shares memory with the result before it", i)
		}
	}
}

func TestUpResultsAreNew(t *testing.T) {
	for i, s := range states() {
		for to := 1; to <= api.MaxVersion; to++ {
			d, _, e := up.Down(s, to)
			if e != api.OK || shares(d, s) || sharesInside(d) {
				t.Errorf("Down of state %d to %d: error %d, or memory is shared", i, to, e)
			}
			for version := to; version <= api.MaxVersion; version++ {
				u, e := up.State(d, to, version)
				if e != api.OK || shares(u, d) || sharesInside(u) {
					t.Errorf("State of state %d from %d to %d: error %d, or memory is shared", i, to, version, e)
				}
				if again, _ := up.State(d, to, version); shares(u, again) {
					t.Errorf("State of state %d from %d to %d shares memory with the result before it", i, to, version)
				}
				b, _ := wire.Encode(d, to)
				if c, e := up.Bytes(b, to, version); e != api.OK || shares(b, c) {
					t.Errorf("Bytes of state %d from %d to %d: error %d, or memory is shared", i, to, version, e)
				}
			}
		}
	}
}

func TestJSONResultsAreNew(t *testing.T) {
	for _, s := range append(texts(), "\n", `"`) {
		if shares(json.Quote(s), s) {
			t.Errorf("Quote(%q) shares memory with its argument", s)
		}
	}
	for i, s := range append(states(), api.State{Jobs: []api.Job{{Name: "\x01", Tag: "\x01"}, {Name: `"`, Tag: "\x01"}}}) {
		form, e := json.Print(s)
		if e != api.OK || shares(form, s) {
			t.Errorf("Print of state %d: error %d, or it shares memory with its argument", i, e)
		}
		p, e := json.Parse(form)
		if e != api.OK || shares(p, form) || sharesInside(p) {
			t.Errorf("Parse of state %d: error %d, or memory is shared", i, e)
		}
		if again, _ := json.Parse(form); shares(p, again) {
			t.Errorf("Parse of state %d shares memory with the result before it", i)
		}
	}
}

func TestDeltaResultsAreNew(t *testing.T) {
	all := states()
	for i, a := range all {
		for k, b := range all {
			a.Rev, b.Rev = 3, 7
			d, e := delta.Diff(a, b)
			if e != api.OK || shares(d, a) || shares(d, b) || sharesInside(d) {
				t.Errorf("Diff of the states %d and %d: error %d, or memory is shared", i, k, e)
			}
			if again, _ := delta.Diff(a, b); shares(d, again) {
				t.Errorf("Diff of the states %d and %d shares memory with the result before it", i, k)
			}
			s, e := delta.Apply(a, d)
			if e != api.OK || shares(s, a) || shares(s, d) || sharesInside(s) {
				t.Errorf("Apply to the state %d, which leads to %d: error %d, or memory is shared", i, k, e)
			}
			bytes, e := delta.Encode(d)
			if e != api.OK || shares(bytes, d) {
				t.Errorf("Encode of the delta from %d to %d: error %d, or it shares memory with its argument", i, k, e)
			}
			c, e := delta.Decode(bytes)
			if e != api.OK || shares(c, bytes) || sharesInside(c) {
				t.Errorf("Decode of the delta from %d to %d: error %d, or memory is shared", i, k, e)
			}
		}
	}
}

func TestReqResultsAreNew(t *testing.T) {
	for _, s := range texts()[1:] {
		for _, r := range []api.Request{
			{Kind: api.PutJob, Job: api.Job{Name: s, Tag: s}},
			{Kind: api.PutNode, Node: api.Node{Name: s, Zone: s}},
			{Kind: api.DelJob, Name: s},
			{Kind: api.DelNode, Name: s},
			{Kind: api.Grant, Lease: api.Lease{Job: s, Node: s}},
			{Kind: api.Free, Name: s},
			{Kind: api.Tick, N: len(s)},
			{Kind: api.Get},
			{Kind: api.Watch},
		} {
			b, e := req.Encode(r)
			if e != api.OK || shares(b, r) {
				t.Errorf("Encode(%+v): error %d, or it shares memory with its argument", r, e)
			}
			if again, _ := req.Encode(r); shares(b, again) {
				t.Errorf("Encode(%+v) shares memory with the result before it", r)
			}
			d, e := req.Decode(b)
			if e != api.OK || shares(d, b) || sharesInside(d) {
				t.Errorf("Decode(%q): error %d, or memory is shared", b, e)
			}
			if again, _ := req.Decode(b); shares(d, again) {
				t.Errorf("Decode(%q) shares memory with the result before it", b)
			}
		}
	}
	for _, r := range []api.Reply{{}, {Code: api.ErrOld, Rev: api.MaxTime}} {
		b, e := req.Reply(r)
		if again, _ := req.Reply(r); e != api.OK || shares(b, again) {
			t.Errorf("Reply(%+v): error %d, or it shares memory with the result before it", r, e)
		}
	}
}

func TestServeResultsAreNew(t *testing.T) {
	for i, s := range states() {
		v, e := serve.New(s)
		if e != api.OK || shares(*v, s) || sharesInside(*v) {
			t.Fatalf("New of state %d: error %d, or memory is shared", i, e)
		}
		name := strings.Repeat("n", i%api.MaxText+1)
		for _, q := range []api.Request{
			{Kind: api.PutJob, Job: api.Job{Name: name, Tag: name}},
			{Kind: api.PutNode, Node: api.Node{Name: name, Zone: name}},
			{Kind: api.Grant, Lease: api.Lease{Job: name, Node: name, Until: 9}},
			{Kind: api.Get},
			{Kind: api.PutJob, Job: api.Job{Name: name, Prio: 1}},
			{Kind: api.PutNode, Node: api.Node{Name: name, Room: 1}},
			{Kind: api.Free, Name: name},
			{Kind: api.Grant, Lease: api.Lease{Job: name, Node: name, Until: 9}},
			{Kind: api.Tick, N: 9},
			{Kind: api.Grant, Lease: api.Lease{Job: name, Node: name, Until: 10}},
			{Kind: api.Watch},
			{Kind: api.DelNode, Name: name},
			{Kind: api.DelJob, Name: name},
		} {
			before := v.State()
			r, d, _ := v.Do(q)
			if r.Code != api.OK || shares(d, q) || sharesInside(d) || shares(d, before) {
				t.Errorf("Do(%+v) at state %d: error %d, or memory is shared", q, i, r.Code)
			}
			after := v.State()
			if sharesInside(after) || shares(after, before) || shares(after, q) || shares(after, d) {
				t.Errorf("the state after Do(%+v) at state %d shares memory", q, i)
			}
			if sharesInside(*v) || shares(*v, q) || shares(*v, d) || shares(*v, before) || shares(*v, after) {
				t.Errorf("the server after Do(%+v) at state %d shares memory", q, i)
			}
		}
	}
}

// requestFrame returns the bytes of a frame with a request.
func requestFrame(t *testing.T, q api.Request) string {
	t.Helper()
	b, e := req.Encode(q)
	s, f := frame.Encode(api.Frame{Version: 3, Kind: api.KRequest, Payload: b})
	if e != api.OK || f != api.OK {
		t.Fatal(q, e, f)
	}
	return s
}

// hubActs returns acts that lead to replies, states, deltas on several connections, and an error.
func hubActs(t *testing.T, name string) []api.Act {
	t.Helper()
	watch := requestFrame(t, api.Request{Kind: api.Watch})
	put := requestFrame(t, api.Request{Kind: api.PutJob, Job: api.Job{Name: name, Tag: name}})
	node := requestFrame(t, api.Request{Kind: api.PutNode, Node: api.Node{Name: name, Zone: name}})
	return []api.Act{
		{Conn: 1, Bytes: watch}, {Conn: 2, Bytes: watch}, {Conn: 3, Bytes: watch},
		{Conn: 1, Bytes: put[:7]}, {Conn: 1, Bytes: put[7:] + put[:4]},
		{Conn: 0, Bytes: node + watch[:5]},
		{Conn: 2, Bytes: "x"},
		{Conn: 0, Bytes: watch[5:] + requestFrame(t, api.Request{Kind: api.DelJob, Name: name}) + put[:9]},
		{Conn: 1, Bytes: put[4:] + node[:5]},
	}
}

func TestHubResultsAreNew(t *testing.T) {
	for i, s := range states() {
		acts := hubActs(t, strings.Repeat("n", i%api.MaxText+1))
		h, e := hub.New(s)
		if e != api.OK || shares(*h, s) || sharesInside(*h) {
			t.Fatalf("New of state %d: error %d, or memory is shared", i, e)
		}
		var all []string
		for k, a := range acts {
			before := h.State()
			out, e := h.Send(a.Conn, a.Bytes)
			if e != api.OK || shares(out, a) || shares(out, all) || shares(out, before) || shares(out, *h) {
				t.Errorf("act %d at state %d: error %d, or memory is shared", k, i, e)
			}
			if shares(*h, acts) || shares(*h, before) || sharesInside(*h) {
				t.Errorf("after act %d at state %d the hub shares memory", k, i)
			}
			all = append(all, out)
			if shares(h.State(), *h) {
				t.Errorf("after act %d at state %d the state shares memory with the hub", k, i)
			}
		}
		for conn := range api.MaxConns {
			out, e := h.Out(conn)
			if e != api.OK || shares(out, all) || shares(out, *h) {
				t.Errorf("Out(%d) at state %d: error %d, or memory is shared", conn, i, e)
			}
			all = append(all, out)
		}
		out, e := hub.Play(s, acts)
		if e != api.OK || sharesInside(out) || shares(out, acts) || shares(out, s) {
			t.Errorf("Play at state %d: error %d, or memory is shared", i, e)
		}
		if again, _ := hub.Play(s, acts); shares(again, out) {
			t.Errorf("Play at state %d shares memory with the result before it", i)
		}
	}
}

func TestCopiesAreNew(t *testing.T) {
	for i, s := range states() {
		c := state.Copy(s)
		if shares(c, s) || sharesInside(c) {
			t.Errorf("the copy of state %d shares memory", i)
		}
		// A valid state has only one encoding.
		b, _ := wire.Encode(s, 3)
		if d, e := wire.Encode(c, 3); d != b || e != api.OK {
			t.Errorf("the copy of state %d has the encoding %q, error %d, want %q", i, d, e, b)
		}
	}
}

package delta

import (
	"fmt"
	"math"
	"math/rand"
	"reflect"
	"slices"
	"strings"
	"testing"
	"unicode/utf8"

	"bracken/api"
	"bracken/prim"
	"bracken/state"
)

// before returns a state with rows that stay, rows that change and rows that go.
func before() api.State {
	return api.State{
		Rev: 300,
		Jobs: []api.Job{
			{Name: "a", Prio: -5, Need: 3, Tries: 1, Tag: "red"},
			{Name: "bb", Need: 4},
			{Name: "c", Need: 1},
			{Name: "é", Need: 2},
		},
		Nodes: []api.Node{
			{Name: "m", Room: 8, Zone: "west"},
			{Name: "n", Room: 200},
			{Name: "o"},
		},
		Leases: []api.Lease{
			{Job: "a", Node: "m", Until: 128},
			{Job: "bb", Node: "n"},
			{Job: "c", Node: "n", Until: 7},
		},
	}
}

// after returns the state to which sample leads from before.
func after() api.State {
	return api.State{
		Rev: 500,
		Jobs: []api.Job{
			{Name: "a", Prio: -5, Need: 3, Tries: 1, Tag: "red"},
			{Name: "b", Prio: 1, Tag: "t"},
			{Name: "bb", Need: 5},
			{Name: "é", Need: 2},
		},
		Nodes: []api.Node{
			{Name: "m", Room: 8, Zone: "east"},
			{Name: "n", Room: 200},
			{Name: "p", Room: 1},
		},
		Leases: []api.Lease{
			{Job: "a", Node: "m", Until: 129},
			{Job: "bb", Node: "n"},
			{Job: "é", Node: "n", Until: 1 << 40},
		},
	}
}

// sample returns the delta from before to after.
func sample() api.Delta {
	return api.Delta{
		From:       300,
		To:         500,
		Jobs:       []api.Job{{Name: "b", Prio: 1, Tag: "t"}, {Name: "bb", Need: 5}},
		Nodes:      []api.Node{{Name: "m", Room: 8, Zone: "east"}, {Name: "p", Room: 1}},
		Leases:     []api.Lease{{Job: "a", Node: "m", Until: 129}, {Job: "é", Node: "n", Until: 1 << 40}},
		GoneJobs:   []string{"c"},
		GoneNodes:  []string{"o"},
		GoneLeases: []string{"c"},
	}
}

// written holds the bytes of sample.
const written = "\xac\x02\xc8\x01" +
	"\x02" + "\x01b\x02\x00\x00\x01t" + "\x02bb\x00\x05\x00\x00" +
	"\x02" + "\x01m\x08\x04east" + "\x01p\x01\x00" +
	"\x02" + "\x01a\x01m\x81\x01" + "\x02é\x01n\x80\x80\x80\x80\x80\x20" +
	"\x01\x01c" + "\x01\x01o" + "\x01\x01c"

// fullState returns a state with as many rows as there may be, whose names have 16 bytes and begin with a prefix.
func fullState(prefix string, rev int) api.State {
	s := api.State{Rev: rev}
	for i := range api.MaxNodes {
		s.Nodes = append(s.Nodes, api.Node{Name: fmt.Sprintf("%s%015d", prefix, i), Room: 1000000, Zone: strings.Repeat("z", 16)})
	}
	for i := range api.MaxJobs {
		name := fmt.Sprintf("%s%015d", prefix, i)
		s.Jobs = append(s.Jobs, api.Job{Name: name, Prio: 1000, Need: 500000, Tries: 100, Tag: strings.Repeat("t", 16)})
		s.Leases = append(s.Leases, api.Lease{Job: name, Node: s.Nodes[i/2].Name, Until: 1 << 40})
	}
	return s
}

// full returns a delta with the longest encoding that there is.
func full() api.Delta {
	old, s := fullState("x", 0), fullState("y", 1<<40)
	d := api.Delta{From: 1<<40 - 1<<39, To: 1 << 40, Jobs: s.Jobs, Nodes: s.Nodes, Leases: s.Leases}
	for i, j := range old.Jobs {
		d.GoneJobs = append(d.GoneJobs, j.Name)
		d.GoneLeases = append(d.GoneLeases, j.Name)
		if i < len(old.Nodes) {
			d.GoneNodes = append(d.GoneNodes, old.Nodes[i].Name)
		}
	}
	return d
}

// sameState reports whether two states are equal; a nil slice equals an empty one.
func sameState(a, b api.State) bool {
	return a.Rev == b.Rev && slices.Equal(a.Jobs, b.Jobs) && slices.Equal(a.Nodes, b.Nodes) && slices.Equal(a.Leases, b.Leases)
}

// sameDelta reports whether two deltas are equal; a nil slice equals an empty one.
func sameDelta(a, b api.Delta) bool {
	return a.From == b.From && a.To == b.To &&
		slices.Equal(a.Jobs, b.Jobs) && slices.Equal(a.Nodes, b.Nodes) && slices.Equal(a.Leases, b.Leases) &&
		slices.Equal(a.GoneJobs, b.GoneJobs) && slices.Equal(a.GoneNodes, b.GoneNodes) && slices.Equal(a.GoneLeases, b.GoneLeases)
}

// wantCheck checks the result of Check, and that no other function accepts a delta with an error.
func wantCheck(t *testing.T, name string, d api.Delta, want api.Errno) {
	t.Helper()
	if e := Check(d); e != want {
		t.Errorf("%s: Check(%+v) = %d, want %d", name, d, e, want)
	}
	b, e := Encode(d)
	if e != want || want != api.OK && b != "" {
		t.Errorf("%s: Encode(%+v) = %q, %d, want %d", name, d, b, e, want)
	}
	if want != api.OK {
		wantApply(t, api.State{Rev: 7}, d, api.State{}, want)
		wantApply(t, api.State{Rev: -1}, d, api.State{}, api.ErrArg)
	}
}

// wantDiff checks the result of Diff; with an error, the delta must be zero.
func wantDiff(t *testing.T, a, b api.State, want api.Delta, wantErrno api.Errno) {
	t.Helper()
	if d, e := Diff(a, b); !sameDelta(d, want) || e != wantErrno {
		t.Errorf("Diff(%+v, %+v) = %+v, %d, want %+v, %d", a, b, d, e, want, wantErrno)
	}
}

// wantApply checks the result of Apply; with an error, the state must be zero.
func wantApply(t *testing.T, s api.State, d api.Delta, want api.State, wantErrno api.Errno) {
	t.Helper()
	if u, e := Apply(s, d); !sameState(u, want) || e != wantErrno {
		t.Errorf("Apply(%+v, %+v) = %+v, %d, want %+v, %d", s, d, u, e, want, wantErrno)
	}
}

// wantDecode checks the result of Decode; with an error, the delta must be zero.
func wantDecode(t *testing.T, b string, want api.Delta, wantErrno api.Errno) {
	t.Helper()
	if d, e := Decode(b); !sameDelta(d, want) || e != wantErrno {
		t.Errorf("Decode(%q) = %+v, %d, want %+v, %d", b, d, e, want, wantErrno)
	}
}

// wantError checks that Decode returns an error and nothing else.
func wantError(t *testing.T, b string, want api.Errno) {
	t.Helper()
	wantDecode(t, b, api.Delta{}, want)
}

// num is short for prim.Number.
func num(n uint64) string { return prim.Number(n) }

// turn is a change of sample, and what Check returns after it.
type turn struct {
	name string
	turn func(d *api.Delta)
	want api.Errno
}

// run checks every change by itself.
func run(t *testing.T, turns []turn) {
	t.Helper()
	for _, c := range turns {
		d := sample()
		c.turn(&d)
		wantCheck(t, c.name, d, c.want)
	}
}

// texts holds strings, and whether they are names.
func texts() map[string]bool {
	return map[string]bool{
		"":                              false,
		"x":                             true,
		"\x00":                          true,
		strings.Repeat("x", 16):         true,
		strings.Repeat("x", 17):         false,
		strings.Repeat("é", 8):          true,
		strings.Repeat("é", 8) + "x":    false,
		"\xff":                          false,
		"x\xc3":                         false,
		"\xed\xa0\x80":                  false,
		"\U0010ffff":                    true,
		strings.Repeat("x", 15) + "é":   false,
		strings.Repeat("\xff", 1<<10):   false,
		"\xf4\x90\x80\x80":              false,
		"\xc0\x80":                      false,
		strings.Repeat("\U0001f600", 4): true,
	}
}

// P17

func TestValidDeltas(t *testing.T) {
	for _, d := range []api.Delta{
		sample(), full(),
		{From: 0, To: 1}, {From: 1, To: 2}, {From: 0, To: 1 << 40}, {From: 1<<40 - 1, To: 1 << 40},
		{To: 1, Jobs: []api.Job{}, Nodes: []api.Node{}, Leases: []api.Lease{}, GoneJobs: []string{}, GoneNodes: []string{}, GoneLeases: []string{}},
		// A lease needs neither its job nor its node, nor any room.
		{To: 1, Leases: []api.Lease{{Job: "a", Node: "b"}}},
		{To: 1, Jobs: []api.Job{{Name: "a", Need: 9}}, Nodes: []api.Node{{Name: "n"}}, Leases: []api.Lease{{Job: "a", Node: "n"}}},
		{To: 1, Leases: []api.Lease{{Job: "a", Node: "z"}, {Job: "b", Node: "a"}}},
		// The lists are independent of each other but for those of the same table.
		{To: 1, Jobs: []api.Job{{Name: "a"}}, Nodes: []api.Node{{Name: "b"}}, Leases: []api.Lease{{Job: "c", Node: "d"}},
			GoneJobs: []string{"b", "c", "d"}, GoneNodes: []string{"a", "c", "d"}, GoneLeases: []string{"a", "b", "d"}},
		{To: 1, GoneJobs: []string{"a"}, GoneNodes: []string{"a"}, GoneLeases: []string{"a"}},
		{To: 1, GoneJobs: []string{"a"}, Leases: []api.Lease{{Job: "a", Node: "n"}}},
	} {
		wantCheck(t, "valid", d, api.OK)
	}
}

func TestRevisions(t *testing.T) {
	for _, c := range []struct {
		from, to int
		want     api.Errno
	}{
		{0, 0, api.ErrArg}, {0, 1, api.OK}, {-1, 0, api.ErrArg}, {-1, 1, api.ErrArg}, {-2, -1, api.ErrArg}, {0, -1, api.ErrArg},
		{5, 4, api.ErrArg}, {5, 5, api.ErrArg}, {5, 6, api.OK}, {5, 7, api.OK},
		{0, 1 << 40, api.OK}, {0, 1<<40 + 1, api.ErrArg}, {1<<40 - 1, 1 << 40, api.OK}, {1 << 40, 1 << 40, api.ErrArg},
		{1 << 40, 1<<40 + 1, api.ErrArg}, {1<<40 + 1, 1 << 40, api.ErrArg}, {1 << 41, 1 << 42, api.ErrArg},
		{math.MaxInt, math.MinInt, api.ErrArg}, {math.MinInt, math.MaxInt, api.ErrArg}, {math.MaxInt, math.MaxInt, api.ErrArg},
		{math.MaxInt, 1, api.ErrArg}, {math.MinInt, 1, api.ErrArg}, {0, math.MaxInt, api.ErrArg}, {0, math.MinInt, api.ErrArg},
	} {
		d := sample()
		d.From, d.To = c.from, c.to
		if e := Check(d); e != c.want {
			t.Errorf("Check with From %d and To %d = %d, want %d", c.from, c.to, e, c.want)
		}
		if _, e := Encode(d); e != c.want {
			t.Errorf("Encode with From %d and To %d = %d, want %d", c.from, c.to, e, c.want)
		}
	}
}

func TestNumberOfElements(t *testing.T) {
	most := full()
	run(t, []turn{
		{"40 jobs", func(d *api.Delta) { d.Jobs = most.Jobs }, api.OK},
		{"20 nodes", func(d *api.Delta) { d.Nodes = most.Nodes }, api.OK},
		{"40 leases", func(d *api.Delta) { d.Leases = most.Leases }, api.OK},
		{"40 jobs gone", func(d *api.Delta) { d.GoneJobs = most.GoneJobs }, api.OK},
		{"20 nodes gone", func(d *api.Delta) { d.GoneNodes = most.GoneNodes }, api.OK},
		{"40 leases gone", func(d *api.Delta) { d.GoneLeases = most.GoneLeases }, api.OK},
		{"41 jobs", func(d *api.Delta) { d.Jobs = append(most.Jobs[:40:40], api.Job{Name: "z"}) }, api.ErrLarge},
		{"21 nodes", func(d *api.Delta) { d.Nodes = append(most.Nodes[:20:20], api.Node{Name: "z"}) }, api.ErrLarge},
		{"41 leases", func(d *api.Delta) { d.Leases = append(most.Leases[:40:40], api.Lease{Job: "z", Node: "n"}) }, api.ErrLarge},
		{"41 jobs gone", func(d *api.Delta) { d.GoneJobs = append(most.GoneJobs[:40:40], "z") }, api.ErrLarge},
		{"21 nodes gone", func(d *api.Delta) { d.GoneNodes = append(most.GoneNodes[:20:20], "z") }, api.ErrLarge},
		{"41 leases gone", func(d *api.Delta) { d.GoneLeases = append(most.GoneLeases[:40:40], "z") }, api.ErrLarge},
		{"many jobs", func(d *api.Delta) { d.Jobs = make([]api.Job, 1000) }, api.ErrLarge},
		{"many nodes gone", func(d *api.Delta) { d.GoneNodes = make([]string, 1000) }, api.ErrLarge},
	})
}

func TestTexts(t *testing.T) {
	for s, isName := range texts() {
		want, note := api.OK, api.OK
		if !isName {
			want, note = api.ErrForm, api.ErrForm
		}
		if s == "" {
			note = api.OK
		}
		name := fmt.Sprintf("%q", s)
		run(t, []turn{
			{"a job " + name, func(d *api.Delta) { d.Jobs = []api.Job{{Name: s}} }, want},
			{"Tag " + name, func(d *api.Delta) { d.Jobs[1].Tag = s }, note},
			{"a node " + name, func(d *api.Delta) { d.Nodes = []api.Node{{Name: s}} }, want},
			{"Zone " + name, func(d *api.Delta) { d.Nodes[1].Zone = s }, note},
			{"Job " + name, func(d *api.Delta) { d.Leases = []api.Lease{{Job: s, Node: "n"}} }, want},
			{"Node " + name, func(d *api.Delta) { d.Leases[1].Node = s }, want},
			{"a job gone " + name, func(d *api.Delta) { d.GoneJobs = []string{s} }, want},
			{"a node gone " + name, func(d *api.Delta) { d.GoneNodes = []string{s} }, want},
			{"a lease gone " + name, func(d *api.Delta) { d.GoneLeases = []string{s} }, want},
		})
	}
}

func TestNumbers(t *testing.T) {
	for _, f := range []struct {
		name      string
		field     func(d *api.Delta) *int
		low, high int
	}{
		{"Prio", func(d *api.Delta) *int { return &d.Jobs[1].Prio }, -1000, 1000},
		{"Need", func(d *api.Delta) *int { return &d.Jobs[0].Need }, 0, 1000000},
		{"Tries", func(d *api.Delta) *int { return &d.Jobs[1].Tries }, 0, 100},
		{"Room", func(d *api.Delta) *int { return &d.Nodes[1].Room }, 0, 1000000},
		{"Until", func(d *api.Delta) *int { return &d.Leases[0].Until }, 0, 1 << 40},
		{"the last Until", func(d *api.Delta) *int { return &d.Leases[1].Until }, 0, 1 << 40},
	} {
		for n, want := range map[int]api.Errno{
			f.low: api.OK, f.low + 1: api.OK, f.high - 1: api.OK, f.high: api.OK,
			f.low - 1: api.ErrArg, f.high + 1: api.ErrArg, math.MinInt: api.ErrArg, math.MaxInt: api.ErrArg,
		} {
			d := sample()
			*f.field(&d) = n
			wantCheck(t, fmt.Sprint(f.name, n), d, want)
		}
	}
}

func TestOrder(t *testing.T) {
	run(t, []turn{
		{"equal jobs", func(d *api.Delta) { d.Jobs[1].Name = "b" }, api.ErrOrder},
		{"a smaller job", func(d *api.Delta) { d.Jobs[1].Name = "a" }, api.ErrOrder},
		{"equal nodes", func(d *api.Delta) { d.Nodes[1].Name = "m" }, api.ErrOrder},
		{"a smaller node", func(d *api.Delta) { d.Nodes[1].Name = "l" }, api.ErrOrder},
		{"equal leases", func(d *api.Delta) { d.Leases[1].Job = "a" }, api.ErrOrder},
		{"a smaller lease", func(d *api.Delta) { d.Leases[0].Job = "ê" }, api.ErrOrder},
		{"leases of one node", func(d *api.Delta) { d.Leases[1].Node = "m" }, api.OK},
		{"equal jobs gone", func(d *api.Delta) { d.GoneJobs = []string{"x", "x"} }, api.ErrOrder},
		{"a smaller job gone", func(d *api.Delta) { d.GoneJobs = []string{"y", "x"} }, api.ErrOrder},
		{"equal nodes gone", func(d *api.Delta) { d.GoneNodes = []string{"x", "x"} }, api.ErrOrder},
		{"a smaller node gone", func(d *api.Delta) { d.GoneNodes = []string{"x", "y", "x"} }, api.ErrOrder},
		{"equal leases gone", func(d *api.Delta) { d.GoneLeases = []string{"x", "x"} }, api.ErrOrder},
		{"a smaller lease gone", func(d *api.Delta) { d.GoneLeases = []string{"xx", "x"} }, api.ErrOrder},
		// Bytewise: neither by letters nor by lengths.
		{"the order of bytes", func(d *api.Delta) { d.GoneJobs = []string{"B", "a", "aa", "é"} }, api.OK},
		{"not the order of letters", func(d *api.Delta) { d.GoneJobs = []string{"a", "B"} }, api.ErrOrder},
		{"not the order of lengths", func(d *api.Delta) { d.GoneJobs = []string{"z", "aa"} }, api.ErrOrder},
	})
}

func TestTwice(t *testing.T) {
	run(t, []turn{
		{"the first job", func(d *api.Delta) { d.GoneJobs = []string{"b"} }, api.ErrTwice},
		{"the last job", func(d *api.Delta) { d.GoneJobs = []string{"a", "bb"} }, api.ErrTwice},
		{"the first node", func(d *api.Delta) { d.GoneNodes = []string{"m", "n"} }, api.ErrTwice},
		{"the last node", func(d *api.Delta) { d.GoneNodes = []string{"p"} }, api.ErrTwice},
		{"the first lease", func(d *api.Delta) { d.GoneLeases = []string{"a"} }, api.ErrTwice},
		{"the last lease", func(d *api.Delta) { d.GoneLeases = []string{"c", "é"} }, api.ErrTwice},
		{"the node of a lease", func(d *api.Delta) { d.GoneLeases = []string{"m", "n"} }, api.OK},
		{"a tag", func(d *api.Delta) { d.GoneJobs = []string{"t"} }, api.OK},
		{"a zone", func(d *api.Delta) { d.GoneNodes = []string{"east"} }, api.OK},
	})
}

// Each delta has two errors; the one that the chapter mentions first counts.
func TestFirstErrorCounts(t *testing.T) {
	bad := strings.Repeat("x", 17)
	run(t, []turn{
		{"To before the sizes", func(d *api.Delta) { d.To, d.Jobs = 300, make([]api.Job, 41) }, api.ErrArg},
		{"From before the sizes", func(d *api.Delta) { d.From, d.GoneLeases = -1, make([]string, 41) }, api.ErrArg},
		{"To before a job", func(d *api.Delta) { d.To, d.Jobs[0].Name = 0, "" }, api.ErrArg},
		{"the size of GoneLeases before a job", func(d *api.Delta) { d.GoneLeases, d.Jobs[0].Name = make([]string, 41), "" }, api.ErrLarge},
		{"the size of GoneNodes before a job", func(d *api.Delta) { d.GoneNodes, d.Jobs[0].Prio = make([]string, 21), 1001 }, api.ErrLarge},
		{"the size of Leases before a node", func(d *api.Delta) { d.Leases, d.Nodes[0].Room = make([]api.Lease, 41), -1 }, api.ErrLarge},
		{"a name before a number", func(d *api.Delta) { d.Jobs[0].Tag, d.Jobs[0].Prio = bad, 1001 }, api.ErrForm},
		{"the first job before the second", func(d *api.Delta) { d.Jobs[0].Prio, d.Jobs[1].Name = 1001, "" }, api.ErrArg},
		{"a job before a node", func(d *api.Delta) { d.Jobs[1].Need, d.Nodes[0].Name = -1, "" }, api.ErrArg},
		{"the order of jobs before a node", func(d *api.Delta) { d.Jobs[1].Name, d.Nodes[0].Name = "b", "" }, api.ErrOrder},
		{"a number before the order", func(d *api.Delta) { d.Jobs[1].Name, d.Jobs[1].Tries = "b", 101 }, api.ErrArg},
		{"a node before a lease", func(d *api.Delta) { d.Nodes[1].Room, d.Leases[0].Job = -1, "" }, api.ErrArg},
		{"the order of nodes before a lease", func(d *api.Delta) { d.Nodes[1].Name, d.Leases[0].Job = "m", "" }, api.ErrOrder},
		{"Job before Until", func(d *api.Delta) { d.Leases[0].Job, d.Leases[0].Until = "", -1 }, api.ErrForm},
		{"Node before Until", func(d *api.Delta) { d.Leases[0].Node, d.Leases[0].Until = bad, -1 }, api.ErrForm},
		{"Node before the order", func(d *api.Delta) { d.Leases[1].Job, d.Leases[1].Node = "a", "" }, api.ErrForm},
		{"Until before the order", func(d *api.Delta) { d.Leases[1].Job, d.Leases[1].Until = "a", -1 }, api.ErrArg},
		{"the first lease before the second", func(d *api.Delta) { d.Leases[0].Until, d.Leases[1].Job = -1, bad }, api.ErrArg},
		{"a lease before GoneJobs", func(d *api.Delta) { d.Leases[1].Until, d.GoneJobs[0] = -1, "" }, api.ErrArg},
		{"the order of leases before GoneJobs", func(d *api.Delta) { d.Leases[1].Job, d.GoneJobs[0] = "a", "" }, api.ErrOrder},
		{"GoneJobs before GoneNodes", func(d *api.Delta) { d.GoneJobs[0], d.GoneNodes[0] = "b", "" }, api.ErrTwice},
		{"GoneJobs before GoneLeases", func(d *api.Delta) { d.GoneJobs, d.GoneLeases[0] = []string{"x", "x"}, "" }, api.ErrOrder},
		{"GoneNodes before GoneLeases", func(d *api.Delta) { d.GoneNodes[0], d.GoneLeases[0] = "m", bad }, api.ErrTwice},
		{"the form of a name before its order", func(d *api.Delta) { d.GoneJobs = []string{"x", ""} }, api.ErrForm},
		{"the order of a name before its second place", func(d *api.Delta) { d.GoneJobs = []string{"x", "b"} }, api.ErrOrder},
		{"the first name's place before the second's form", func(d *api.Delta) { d.GoneNodes = []string{"m", ""} }, api.ErrTwice},
		{"the first name's place before the second's order", func(d *api.Delta) { d.GoneLeases = []string{"a", "a"} }, api.ErrTwice},
		{"the second name's order before the third's form", func(d *api.Delta) { d.GoneLeases = []string{"c", "b", bad} }, api.ErrOrder},
	})
}

// P18

func TestDiff(t *testing.T) {
	wantDiff(t, before(), after(), sample(), api.OK)
	wantApply(t, before(), sample(), after(), api.OK)
}

// Only the revision differs.
func TestDiffOfEqualRows(t *testing.T) {
	for _, s := range []api.State{{Rev: 300}, before(), fullState("x", 300)} {
		later := s
		later.Rev = 301
		d := api.Delta{From: 300, To: 301}
		wantDiff(t, s, later, d, api.OK)
		wantApply(t, s, d, later, api.OK)
	}
}

func TestDiffFromAndToNothing(t *testing.T) {
	s := before()
	all := api.Delta{To: 300, Jobs: s.Jobs, Nodes: s.Nodes, Leases: s.Leases}
	wantDiff(t, api.State{}, s, all, api.OK)
	wantApply(t, api.State{}, all, s, api.OK)
	none := api.Delta{From: 300, To: 1 << 40, GoneJobs: []string{"a", "bb", "c", "é"}, GoneNodes: []string{"m", "n", "o"}, GoneLeases: []string{"a", "bb", "c"}}
	wantDiff(t, s, api.State{Rev: 1 << 40}, none, api.OK)
	wantApply(t, s, none, api.State{Rev: 1 << 40}, api.OK)
}

// All rows of a full state are replaced by others at once.
func TestDiffFull(t *testing.T) {
	a, b := fullState("x", 1<<39), fullState("y", 1<<40)
	wantDiff(t, a, b, full(), api.OK)
	wantApply(t, a, full(), b, api.OK)
	back := full()
	back.From, back.To = 1, 2
	wantApply(t, api.State{Rev: 1}, back, api.State{}, api.ErrNone)
}

// A row that differs in any field is part of the delta, and no other row is.
func TestDiffOfOneField(t *testing.T) {
	for i, c := range []struct {
		turn func(s *api.State)
		want api.Delta
	}{
		{func(s *api.State) { s.Jobs[1].Prio = 1 }, api.Delta{Jobs: []api.Job{{Name: "bb", Prio: 1, Need: 4}}}},
		{func(s *api.State) { s.Jobs[1].Need = 5 }, api.Delta{Jobs: []api.Job{{Name: "bb", Need: 5}}}},
		{func(s *api.State) { s.Jobs[1].Tries = 1 }, api.Delta{Jobs: []api.Job{{Name: "bb", Need: 4, Tries: 1}}}},
		{func(s *api.State) { s.Jobs[1].Tag = "t" }, api.Delta{Jobs: []api.Job{{Name: "bb", Need: 4, Tag: "t"}}}},
		{func(s *api.State) { s.Nodes[1].Room = 201 }, api.Delta{Nodes: []api.Node{{Name: "n", Room: 201}}}},
		{func(s *api.State) { s.Nodes[1].Zone = "z" }, api.Delta{Nodes: []api.Node{{Name: "n", Room: 200, Zone: "z"}}}},
		{func(s *api.State) { s.Leases[1].Node = "m" }, api.Delta{Leases: []api.Lease{{Job: "bb", Node: "m"}}}},
		{func(s *api.State) { s.Leases[1].Until = 1 }, api.Delta{Leases: []api.Lease{{Job: "bb", Node: "n", Until: 1}}}},
		{func(s *api.State) { s.Jobs[3].Name = "d" }, api.Delta{Jobs: []api.Job{{Name: "d", Need: 2}}, GoneJobs: []string{"é"}}},
		{func(s *api.State) { s.Nodes[2].Name = "nn" }, api.Delta{Nodes: []api.Node{{Name: "nn"}}, GoneNodes: []string{"o"}}},
		{func(s *api.State) { s.Leases[2].Job = "é" }, api.Delta{Leases: []api.Lease{{Job: "é", Node: "n", Until: 7}}, GoneLeases: []string{"c"}}},
		{func(s *api.State) { s.Leases = s.Leases[1:] }, api.Delta{GoneLeases: []string{"a"}}},
	} {
		s := before()
		c.turn(&s)
		s.Rev, c.want.From, c.want.To = 301, 300, 301
		if d, e := Diff(before(), s); !sameDelta(d, c.want) || e != api.OK {
			t.Errorf("change %d: Diff = %+v, %d, want %+v", i, d, e, c.want)
		}
		wantApply(t, before(), c.want, s, api.OK)
	}
}

func TestDiffErrors(t *testing.T) {
	room, form := before(), after()
	room.Nodes[1].Room = 4
	form.Jobs[0].Name = ""
	for _, c := range []struct {
		a, b api.State
		want api.Errno
	}{
		{before(), before(), api.ErrArg}, {after(), before(), api.ErrArg}, {api.State{}, api.State{}, api.ErrArg},
		{api.State{Rev: 1 << 40}, api.State{Rev: 1 << 40}, api.ErrArg}, {api.State{Rev: 2}, api.State{Rev: 1}, api.ErrArg},
		{room, after(), api.ErrRoom}, {before(), form, api.ErrForm}, {room, form, api.ErrRoom}, {form, room, api.ErrForm},
		{room, room, api.ErrRoom}, {form, before(), api.ErrForm}, {after(), room, api.ErrRoom},
		{api.State{Rev: -1}, after(), api.ErrArg}, {before(), api.State{Rev: 1<<40 + 1}, api.ErrArg},
		{api.State{Rev: -1}, form, api.ErrArg}, {api.State{Rev: 1 << 41}, room, api.ErrArg},
		{before(), api.State{Rev: 400, Nodes: make([]api.Node, 21)}, api.ErrLarge},
		{before(), api.State{Rev: 400, Leases: []api.Lease{{Job: "a", Node: "n"}}}, api.ErrNone},
	} {
		wantDiff(t, c.a, c.b, api.Delta{}, c.want)
	}
}

func TestApplyTwice(t *testing.T) {
	s, e := Apply(before(), sample())
	if e != api.OK {
		t.Fatal(e)
	}
	wantApply(t, s, sample(), api.State{}, api.ErrOld)
}

// A delta need not be what Diff returns: a row may be there already.
func TestApplyTheSameRow(t *testing.T) {
	s := before()
	d := api.Delta{From: 300, To: 302, Jobs: s.Jobs[1:3], Nodes: s.Nodes, Leases: s.Leases[:1]}
	s.Rev = 302
	wantApply(t, before(), d, s, api.OK)
}

// Rows are inserted at the beginning, between others, and at the end.
func TestApplyInserts(t *testing.T) {
	s := api.State{Jobs: []api.Job{{Name: "c"}, {Name: "e"}}, Nodes: []api.Node{{Name: "c"}, {Name: "e"}}}
	d := api.Delta{
		To:     1,
		Jobs:   []api.Job{{Name: "B"}, {Name: "a"}, {Name: "d", Prio: 3}, {Name: "e", Prio: 4}, {Name: "ee"}, {Name: "é"}},
		Nodes:  []api.Node{{Name: "d"}, {Name: "f"}},
		Leases: []api.Lease{{Job: "a", Node: "f"}, {Job: "c", Node: "d"}},
	}
	want := api.State{
		Rev:    1,
		Jobs:   []api.Job{{Name: "B"}, {Name: "a"}, {Name: "c"}, {Name: "d", Prio: 3}, {Name: "e", Prio: 4}, {Name: "ee"}, {Name: "é"}},
		Nodes:  []api.Node{{Name: "c"}, {Name: "d"}, {Name: "e"}, {Name: "f"}},
		Leases: []api.Lease{{Job: "a", Node: "f"}, {Job: "c", Node: "d"}},
	}
	wantApply(t, s, d, want, api.OK)
}

func TestApplyRevision(t *testing.T) {
	for _, rev := range []int{0, 1, 299, 301, 499, 500, 501, 1 << 40} {
		s := before()
		s.Rev = rev
		wantApply(t, s, sample(), api.State{}, api.ErrOld)
	}
}

func TestApplyWhatIsNotThere(t *testing.T) {
	for i, turn := range []func(d *api.Delta){
		func(d *api.Delta) { d.GoneJobs = []string{"aa"} },
		func(d *api.Delta) { d.GoneJobs = []string{"c", "d"} },
		func(d *api.Delta) { d.GoneJobs = []string{"m"} },
		func(d *api.Delta) { d.GoneNodes = []string{"a"} },
		func(d *api.Delta) { d.GoneNodes = []string{"o", "oo"} },
		func(d *api.Delta) { d.GoneLeases = []string{"b"} },
		func(d *api.Delta) { d.GoneLeases = []string{"c", "m"} },
		// What is not there counts, even if the result would have other errors.
		func(d *api.Delta) { d.GoneLeases, d.Nodes[0].Room = []string{"d"}, 0 },
		func(d *api.Delta) { d.GoneNodes, d.Nodes[0].Room = []string{"q"}, 0 },
		func(d *api.Delta) { d.GoneJobs, d.Nodes[0].Room = []string{"q"}, 0 },
	} {
		d := sample()
		turn(&d)
		if s, e := Apply(before(), d); !sameState(s, api.State{}) || e != api.ErrNone {
			t.Errorf("delta %d: Apply = %+v, %d", i, s, e)
		}
	}
}

func TestApplyToAnInvalidResult(t *testing.T) {
	most := fullState("x", 0)
	for _, c := range []struct {
		name string
		s    api.State
		d    api.Delta
		want api.Errno
	}{
		{"a job too many", most, api.Delta{To: 1, Jobs: []api.Job{{Name: "a"}}}, api.ErrLarge},
		{"a node too many", most, api.Delta{To: 1, Nodes: []api.Node{{Name: "z"}}}, api.ErrLarge},
		{"a lease too many", most, api.Delta{To: 1, Leases: []api.Lease{{Job: "a", Node: "n"}}}, api.ErrLarge},
		{"many jobs too many", most, api.Delta{To: 1, Jobs: full().Jobs}, api.ErrLarge},
		{"a lease without its job", before(), api.Delta{From: 300, To: 301, GoneJobs: []string{"a"}}, api.ErrNone},
		{"a lease without its node", before(), api.Delta{From: 300, To: 301, GoneNodes: []string{"n"}}, api.ErrNone},
		{"a lease of no job", before(), api.Delta{From: 300, To: 301, Leases: []api.Lease{{Job: "d", Node: "n"}}}, api.ErrNone},
		{"a lease at no node", before(), api.Delta{From: 300, To: 301, Leases: []api.Lease{{Job: "é", Node: "nn"}}}, api.ErrNone},
		{"a job that needs too much", before(), api.Delta{From: 300, To: 301, Jobs: []api.Job{{Name: "a", Need: 9}}}, api.ErrRoom},
		{"a node with too little room", before(), api.Delta{From: 300, To: 301, Nodes: []api.Node{{Name: "m", Room: 2}}}, api.ErrRoom},
		{"a lease at a full node", before(), api.Delta{From: 300, To: 301, Leases: []api.Lease{{Job: "é", Node: "o"}}}, api.ErrRoom},
	} {
		if s, e := Apply(c.s, c.d); !sameState(s, api.State{}) || e != c.want {
			t.Errorf("%s: Apply = %+v, %d, want %d", c.name, s, e, c.want)
		}
	}
	// Only the result counts: a full state may take a row if another one goes.
	d := api.Delta{To: 1, Leases: []api.Lease{}, GoneJobs: []string{most.Jobs[0].Name}, GoneLeases: []string{most.Jobs[0].Name}, Jobs: []api.Job{{Name: "a"}}}
	want := api.State{Rev: 1, Jobs: append([]api.Job{{Name: "a"}}, most.Jobs[1:]...), Nodes: most.Nodes, Leases: most.Leases[1:]}
	wantApply(t, most, d, want, api.OK)
}

func TestApplyFirstError(t *testing.T) {
	room := before()
	room.Nodes[1].Room = 4
	form, none, old := sample(), sample(), sample()
	form.Jobs[0].Name = ""
	none.From, none.GoneJobs = 299, []string{"q"}
	old.From, old.Nodes[0].Room = 299, 0
	wantApply(t, room, sample(), api.State{}, api.ErrRoom)
	wantApply(t, room, form, api.State{}, api.ErrRoom)
	wantApply(t, room, old, api.State{}, api.ErrRoom)
	wantApply(t, before(), form, api.State{}, api.ErrForm)
	wantApply(t, after(), form, api.State{}, api.ErrForm)
	wantApply(t, before(), none, api.State{}, api.ErrOld)
	wantApply(t, before(), old, api.State{}, api.ErrOld)
}

// P19

func TestEncode(t *testing.T) {
	if b, e := Encode(sample()); b != written || e != api.OK {
		t.Errorf("Encode = %q, %d, want %q", b, e, written)
	}
	wantDecode(t, written, sample(), api.OK)
}

func TestEncodeFields(t *testing.T) {
	for want, d := range map[string]api.Delta{
		"\x00\x01\x00\x00\x00\x00\x00\x00":                          {To: 1},
		"\x04\x02\x00\x00\x00\x00\x00\x00":                          {From: 4, To: 6},
		"\x00\x80\x80\x80\x80\x80\x20\x00\x00\x00\x00\x00\x00":      {To: 1 << 40},
		"\xff\xff\xff\xff\xff\x1f\x01\x00\x00\x00\x00\x00\x00":      {From: 1<<40 - 1, To: 1 << 40},
		"\x00\x01\x01\x01j\x01\x02\x03\x01t\x00\x00\x00\x00\x00":    {To: 1, Jobs: []api.Job{{Name: "j", Prio: -1, Need: 2, Tries: 3, Tag: "t"}}},
		"\x00\x01\x01\x01j\xcf\x0f\x00\x00\x00\x00\x00\x00\x00\x00": {To: 1, Jobs: []api.Job{{Name: "j", Prio: -1000}}},
		"\x00\x01\x00\x01\x01n\x05\x01z\x00\x00\x00\x00":            {To: 1, Nodes: []api.Node{{Name: "n", Room: 5, Zone: "z"}}},
		"\x00\x01\x00\x00\x01\x01j\x01n\x07\x00\x00\x00":            {To: 1, Leases: []api.Lease{{Job: "j", Node: "n", Until: 7}}},
		"\x00\x01\x00\x00\x00\x02\x01a\x02bc\x00\x00":               {To: 1, GoneJobs: []string{"a", "bc"}},
		"\x00\x01\x00\x00\x00\x00\x02\x01a\x02bc\x00":               {To: 1, GoneNodes: []string{"a", "bc"}},
		"\x00\x01\x00\x00\x00\x00\x00\x02\x01a\x02bc":               {To: 1, GoneLeases: []string{"a", "bc"}},
	} {
		if b, e := Encode(d); b != want || e != api.OK {
			t.Errorf("Encode(%+v) = %q, %d, want %q", d, b, e, want)
		}
		wantDecode(t, want, d, api.OK)
	}
}

// Even the longest encoding is shorter than MaxPayload, so that Encode never fails for a valid delta.
func TestEncodeFull(t *testing.T) {
	b, e := Encode(full())
	if len(b) < 5500 || len(b) > api.MaxPayload || e != api.OK {
		t.Errorf("Encode of the full delta has %d bytes, error %d", len(b), e)
	}
	wantDecode(t, b, full(), api.OK)
}

func TestDecodeTooLong(t *testing.T) {
	for _, b := range []string{written, "", "\xff", "\x00\x00"} {
		for _, filler := range []string{"\x00", "\xff", "\x80", "a"} {
			long := b + strings.Repeat(filler, 6001-len(b))
			wantError(t, long, api.ErrLarge)
			wantError(t, long+long, api.ErrLarge)
		}
	}
	// With 6000 bytes the errors are those of the bytes.
	wantError(t, written+strings.Repeat("x", 6000-len(written)), api.ErrForm)
	wantError(t, strings.Repeat("\x80", 6000), api.ErrForm)
	wantError(t, "\x00\x01\x28"+strings.Repeat("\x01", 5997), api.ErrForm)
}

// Every part of an encoding is too short, and every byte behind it is too many: encodings are prefix-free.
func TestDecodePrefixes(t *testing.T) {
	most, _ := Encode(full())
	for _, b := range []string{written, most, "\x00\x01\x00\x00\x00\x00\x00\x00"} {
		for end := range len(b) {
			wantError(t, b[:end], api.ErrShort)
		}
		for _, more := range []string{"\x00", "x", "\xff", "\x80\x80"} {
			wantError(t, b+more, api.ErrForm)
		}
	}
}

func TestDecodeNumberOfElements(t *testing.T) {
	for i, limit := range []uint64{40, 20, 40, 40, 20, 40} {
		start := "\x00\x01" + strings.Repeat("\x00", i)
		wantError(t, start+num(limit), api.ErrShort)
		for _, n := range []uint64{limit + 1, 127, 128, 1 << 32, 1<<32 + 1, 1 << 62, 1<<62 + 1, 1 << 63, math.MaxUint64} {
			wantError(t, start+num(n), api.ErrLarge)
			wantError(t, start+num(n)+"\xff", api.ErrLarge)
		}
		// As many elements as there may be, but all alike.
		row := []string{"\x01a\x00\x00\x00\x00", "\x01a\x00\x00", "\x01a\x01n\x00", "\x01a", "\x01a", "\x01a"}[i]
		wantError(t, start+num(limit)+strings.Repeat(row, int(limit))+strings.Repeat("\x00", 5-i), api.ErrOrder)
	}
}

func TestDecodeNumbers(t *testing.T) {
	for _, f := range []struct {
		name          string
		before, after string
		low, high     uint64 // the valid ones
	}{
		{"From", "", "\x01\x00\x00\x00\x00\x00\x00", 0, 1<<40 - 1},
		{"To", "\x00", "\x00\x00\x00\x00\x00\x00", 1, 1 << 40},
		{"To after From", "\x05", "\x00\x00\x00\x00\x00\x00", 1, 1<<40 - 5},
		{"Prio", "\x00\x01\x01\x01a", "\x00\x00\x00\x00\x00\x00\x00\x00", 0, 2000},
		{"Need", "\x00\x01\x01\x01a\x00", "\x00\x00\x00\x00\x00\x00\x00", 0, 1000000},
		{"Tries", "\x00\x01\x01\x01a\x00\x00", "\x00\x00\x00\x00\x00\x00", 0, 100},
		{"Room", "\x00\x01\x00\x01\x01n", "\x00\x00\x00\x00\x00", 0, 1000000},
		{"Until", "\x00\x01\x00\x00\x01\x01a\x01n", "\x00\x00\x00", 0, 1 << 40},
	} {
		for _, n := range []uint64{f.low, f.low + 1, f.high - 1, f.high} {
			if _, e := Decode(f.before + num(n) + f.after); e != api.OK {
				t.Errorf("%s with the number %d: Decode = %d", f.name, n, e)
			}
		}
		for _, n := range []uint64{f.high + 1, f.high + 2, 1 << 50, 1<<62 - 1, 1 << 62} {
			wantError(t, f.before+num(n)+f.after, api.ErrArg)
			// Bytes that remain are found before the delta is checked.
			wantError(t, f.before+num(n)+f.after+"\x00", api.ErrForm)
		}
		for _, n := range []uint64{1<<62 + 1, 1<<62 + 2, 1 << 63, math.MaxUint64} {
			wantError(t, f.before+num(n)+f.after, api.ErrLarge)
			wantError(t, f.before+num(n)+f.after+"\x00", api.ErrLarge)
			wantError(t, f.before+num(n), api.ErrLarge)
		}
		wantError(t, f.before, api.ErrShort)
		wantError(t, f.before+"\x80", api.ErrShort)
		wantError(t, f.before+"\x80\x00"+f.after, api.ErrForm)
		wantError(t, f.before+strings.Repeat("\xff", 10)+f.after, api.ErrForm)
	}
	// A difference of 0, and sums that an int cannot hold.
	wantError(t, "\x00\x00\x00\x00\x00\x00\x00\x00", api.ErrArg)
	wantError(t, "\x05\x00\x00\x00\x00\x00\x00\x00", api.ErrArg)
	wantError(t, num(1<<62)+num(1<<62)+"\x00\x00\x00\x00\x00\x00", api.ErrArg)
	wantError(t, num(1<<62)+num(1<<62-1)+"\x00\x00\x00\x00\x00\x00", api.ErrArg)
}

func TestDecodeTexts(t *testing.T) {
	long := strings.Repeat("x", 16)
	for _, c := range []struct {
		name, before, after string
		empty               api.Errno // what Decode returns for no text
	}{
		{"a job", "\x00\x01\x01", "\x00\x00\x00\x00\x00\x00\x00\x00\x00", api.ErrForm},
		{"Tag", "\x00\x01\x01\x01a\x00\x00\x00", "\x00\x00\x00\x00\x00", api.OK},
		{"a node", "\x00\x01\x00\x01", "\x00\x00\x00\x00\x00\x00", api.ErrForm},
		{"Zone", "\x00\x01\x00\x01\x01n\x00", "\x00\x00\x00\x00", api.OK},
		{"Job", "\x00\x01\x00\x00\x01", "\x01n\x00\x00\x00\x00", api.ErrForm},
		{"Node", "\x00\x01\x00\x00\x01\x01a", "\x00\x00\x00\x00", api.ErrForm},
		{"a job gone", "\x00\x01\x00\x00\x00\x01", "\x00\x00", api.ErrForm},
		{"a node gone", "\x00\x01\x00\x00\x00\x00\x01", "\x00", api.ErrForm},
		{"a lease gone", "\x00\x01\x00\x00\x00\x00\x00\x01", "", api.ErrForm},
	} {
		for b, want := range map[string]api.Errno{
			"\x00":         c.empty,
			"\x01x":        api.OK,
			"\x02é":        api.OK,
			"\x10" + long:  api.OK,
			"\x11" + long:  api.ErrLarge,
			"\x02\xc3x":    api.ErrForm,
			"\x81\x00x":    api.ErrForm,
			"\xff\xff\x03": api.ErrLarge,
			num(1 << 62):   api.ErrLarge,
		} {
			if _, e := Decode(c.before + b + c.after); e != want {
				t.Errorf("%s as %q: Decode = %d, want %d", c.name, b, e, want)
			}
		}
		wantError(t, c.before, api.ErrShort)
		wantError(t, c.before+"\x10"+long[1:len(long)-len(c.after)], api.ErrShort)
		wantError(t, c.before+"\x01\xff", api.ErrForm)
	}
}

// Each encoding has two errors; the one that comes first in it counts, and that of the delta comes last.
func TestDecodeFirstError(t *testing.T) {
	for _, c := range []struct {
		name, b string
		want    api.Errno
	}{
		{"large before short", "\x00\x01\x29", api.ErrLarge},
		{"a text before the number of nodes", "\x00\x01\x01\x01\xff\x00\x00\x00\x00\x15", api.ErrForm},
		{"the number of jobs before a text", "\x00\x01\x29\x01\xff", api.ErrLarge},
		{"the number of leases gone before the order", "\x00\x01\x00\x00\x00\x02\x01a\x01a\x00\x29", api.ErrLarge},
		{"a name gone before the next number", "\x00\x01\x00\x00\x00\x01\x01\xff\x15", api.ErrForm},
		{"a long name gone before a wrong one", "\x00\x01\x00\x00\x00\x02\x11\x01\xff", api.ErrLarge},
		{"a large difference before a text", "\x00" + num(1<<62+1) + "\x01\x01\xff", api.ErrLarge},
		{"short before From", num(1 << 41), api.ErrShort},
		{"short before the delta", "\x00\x00\x01\x00\x00\x00\x00\x00", api.ErrShort},
		{"what remains before the delta", "\x00\x00\x00\x00\x00\x00\x00\x00\x00", api.ErrForm},
		{"what remains before the order", "\x00\x01\x00\x00\x00\x02\x01a\x01a\x00\x00x", api.ErrForm},
		{"the order", "\x00\x01\x00\x00\x00\x02\x01a\x01a\x00\x00", api.ErrOrder},
		{"a job twice", "\x00\x01\x01\x01a\x00\x00\x00\x00\x00\x00\x01\x01a\x00\x00", api.ErrTwice},
		{"a node twice", "\x00\x01\x00\x01\x01n\x00\x00\x00\x00\x01\x01n\x00", api.ErrTwice},
		{"a lease twice", "\x00\x01\x00\x00\x01\x01a\x01n\x00\x00\x00\x01\x01a", api.ErrTwice},
	} {
		if d, e := Decode(c.b); !sameDelta(d, api.Delta{}) || e != c.want {
			t.Errorf("%s: Decode(%q) = %+v, %d, want %d", c.name, c.b, d, e, c.want)
		}
	}
}

// Rules for all states and deltas

// checkByRule follows the chapter sentence by sentence.
func checkByRule(d api.Delta) api.Errno {
	isName := func(s string) bool { return len(s) >= 1 && len(s) <= 16 && utf8.ValidString(s) }
	if d.From < 0 || d.From > 1<<40 || d.To < d.From+1 || d.To > 1<<40 {
		return api.ErrArg
	}
	if len(d.Jobs) > 40 || len(d.Leases) > 40 || len(d.GoneJobs) > 40 || len(d.GoneLeases) > 40 || len(d.Nodes) > 20 || len(d.GoneNodes) > 20 {
		return api.ErrLarge
	}
	if e := state.Check(api.State{Jobs: d.Jobs}); e != api.OK {
		return e
	}
	if e := state.Check(api.State{Nodes: d.Nodes}); e != api.OK {
		return e
	}
	for i, l := range d.Leases {
		if !isName(l.Job) || !isName(l.Node) {
			return api.ErrForm
		}
		if l.Until < 0 || l.Until > 1<<40 {
			return api.ErrArg
		}
		if i > 0 && l.Job <= d.Leases[i-1].Job {
			return api.ErrOrder
		}
	}
	jobs, nodes, leases := namesOf(api.State{Jobs: d.Jobs, Nodes: d.Nodes, Leases: d.Leases})
	for _, list := range []struct{ gone, there []string }{{d.GoneJobs, jobs}, {d.GoneNodes, nodes}, {d.GoneLeases, leases}} {
		for i, name := range list.gone {
			if !isName(name) {
				return api.ErrForm
			}
			if i > 0 && name <= list.gone[i-1] {
				return api.ErrOrder
			}
			if slices.Contains(list.there, name) {
				return api.ErrTwice
			}
		}
	}
	return api.OK
}

// namesOf returns the keys of all rows.
func namesOf(s api.State) (jobs, nodes, leases []string) {
	for _, j := range s.Jobs {
		jobs = append(jobs, j.Name)
	}
	for _, n := range s.Nodes {
		nodes = append(nodes, n.Name)
	}
	for _, l := range s.Leases {
		leases = append(leases, l.Job)
	}
	return jobs, nodes, leases
}

// missing returns the elements of list that other does not contain.
func missing[T comparable](list, other []T) []T {
	var found []T
	for _, x := range list {
		if !slices.Contains(other, x) {
			found = append(found, x)
		}
	}
	return found
}

// diffByRule follows the chapter for two states that have a delta.
func diffByRule(a, b api.State) api.Delta {
	d := api.Delta{From: a.Rev, To: b.Rev, Jobs: missing(b.Jobs, a.Jobs), Nodes: missing(b.Nodes, a.Nodes), Leases: missing(b.Leases, a.Leases)}
	jobs, nodes, leases := namesOf(a)
	newJobs, newNodes, newLeases := namesOf(b)
	d.GoneJobs, d.GoneNodes, d.GoneLeases = missing(jobs, newJobs), missing(nodes, newNodes), missing(leases, newLeases)
	return d
}

// replaced returns list without the rows whose keys are in gone or in those of rows, with rows, and ordered by an insertion sort.
func replaced[T any](list, rows []T, gone []string, key func(T) string) []T {
	var all []T
	for _, x := range list {
		isNew := slices.ContainsFunc(rows, func(r T) bool { return key(r) == key(x) })
		if !slices.Contains(gone, key(x)) && !isNew {
			all = append(all, x)
		}
	}
	for _, r := range rows {
		at := 0
		for at < len(all) && key(all[at]) < key(r) {
			at++
		}
		all = slices.Insert(all, at, r)
	}
	return all
}

// applyByRule follows the chapter.
func applyByRule(s api.State, d api.Delta) (api.State, api.Errno) {
	if e := state.Check(s); e != api.OK {
		return api.State{}, e
	}
	if e := checkByRule(d); e != api.OK {
		return api.State{}, e
	}
	if s.Rev != d.From {
		return api.State{}, api.ErrOld
	}
	jobs, nodes, leases := namesOf(s)
	if len(missing(d.GoneJobs, jobs))+len(missing(d.GoneNodes, nodes))+len(missing(d.GoneLeases, leases)) > 0 {
		return api.State{}, api.ErrNone
	}
	next := api.State{
		Rev:    d.To,
		Jobs:   replaced(s.Jobs, d.Jobs, d.GoneJobs, func(j api.Job) string { return j.Name }),
		Nodes:  replaced(s.Nodes, d.Nodes, d.GoneNodes, func(n api.Node) string { return n.Name }),
		Leases: replaced(s.Leases, d.Leases, d.GoneLeases, func(l api.Lease) string { return l.Job }),
	}
	if e := state.Check(next); e != api.OK {
		return api.State{}, e
	}
	return next, api.OK
}

// encodeByRule follows the chapter for a valid delta.
func encodeByRule(d api.Delta) string {
	var b strings.Builder
	number := func(n int) { b.WriteString(num(uint64(n))) }
	text := func(s string) { b.WriteString(num(uint64(len(s))) + s) }
	number(d.From)
	number(d.To - d.From)
	number(len(d.Jobs))
	for _, j := range d.Jobs {
		text(j.Name)
		b.WriteString(num(prim.Zig(int64(j.Prio))))
		number(j.Need)
		number(j.Tries)
		text(j.Tag)
	}
	number(len(d.Nodes))
	for _, n := range d.Nodes {
		text(n.Name)
		number(n.Room)
		text(n.Zone)
	}
	number(len(d.Leases))
	for _, l := range d.Leases {
		text(l.Job)
		text(l.Node)
		number(l.Until)
	}
	for _, gone := range [][]string{d.GoneJobs, d.GoneNodes, d.GoneLeases} {
		number(len(gone))
		for _, name := range gone {
			text(name)
		}
	}
	return b.String()
}

// decodeByRule follows the chapter sentence by sentence; an error ends it by a panic.
func decodeByRule(b string) (d api.Delta, e api.Errno) {
	defer func() {
		if p := recover(); p != nil {
			d, e = api.Delta{}, p.(api.Errno)
		}
	}()
	must := func(e api.Errno) {
		if e != api.OK {
			panic(e)
		}
	}
	number := func(most uint64) uint64 {
		n, size, e := prim.ReadNumber(b)
		must(e)
		if n > most {
			must(api.ErrLarge)
		}
		b = b[size:]
		return n
	}
	value := func() int { return int(number(1 << 62)) }
	text := func() string {
		t, size, e := prim.ReadText(b)
		must(e)
		b = b[size:]
		return t
	}
	if len(b) > 6000 {
		must(api.ErrLarge)
	}
	d.From = value()
	d.To = d.From + value()
	for range number(40) {
		name, prio := text(), prim.Zag(number(1<<62))
		need, tries := value(), value()
		d.Jobs = append(d.Jobs, api.Job{Name: name, Prio: int(prio), Need: need, Tries: tries, Tag: text()})
	}
	for range number(20) {
		name, room := text(), value()
		d.Nodes = append(d.Nodes, api.Node{Name: name, Room: room, Zone: text()})
	}
	for range number(40) {
		job, node := text(), text()
		d.Leases = append(d.Leases, api.Lease{Job: job, Node: node, Until: value()})
	}
	for range number(40) {
		d.GoneJobs = append(d.GoneJobs, text())
	}
	for range number(20) {
		d.GoneNodes = append(d.GoneNodes, text())
	}
	for range number(40) {
		d.GoneLeases = append(d.GoneLeases, text())
	}
	if b != "" {
		must(api.ErrForm)
	}
	must(checkByRule(d))
	return d, api.OK
}

// names holds the names of the random rows.
func names() []string {
	return []string{"a", "aa", "b", "c", "é"}
}

// randomState returns a state that is nearly always valid, with a small Rev.
func randomState(r *rand.Rand) api.State {
	s := api.State{Rev: r.Intn(6)}
	for _, name := range names() {
		if r.Intn(3) > 0 {
			s.Jobs = append(s.Jobs, api.Job{Name: name, Prio: r.Intn(2), Need: r.Intn(2), Tries: r.Intn(2), Tag: strings.Repeat("t", r.Intn(2))})
		}
		if r.Intn(3) > 0 {
			s.Nodes = append(s.Nodes, api.Node{Name: name, Room: 1 + r.Intn(3), Zone: strings.Repeat("z", r.Intn(2))})
		}
	}
	for _, j := range s.Jobs {
		if len(s.Nodes) > 0 && r.Intn(2) == 0 {
			s.Leases = append(s.Leases, api.Lease{Job: j.Name, Node: s.Nodes[r.Intn(len(s.Nodes))].Name, Until: r.Intn(2)})
		}
	}
	return s
}

// randomDelta returns a delta that is often valid, and often leads from s to a valid state.
func randomDelta(s api.State, r *rand.Rand) api.Delta {
	next := randomState(r)
	next.Rev = s.Rev + r.Intn(5)
	d := diffByRule(s, next)
	if r.Intn(5) == 0 {
		d.From += r.Intn(3) - 1
	}
	for range r.Intn(4) {
		name := names()[r.Intn(5)]
		switch r.Intn(10) {
		case 0:
			d.GoneJobs = inserted(d.GoneJobs, name, r)
		case 1:
			d.GoneNodes = inserted(d.GoneNodes, name, r)
		case 2:
			d.GoneLeases = inserted(d.GoneLeases, name, r)
		case 3:
			d.GoneLeases = append(d.GoneLeases, "")
		case 4:
			d.Leases = append(d.Leases, api.Lease{Job: name, Node: names()[r.Intn(5)], Until: r.Intn(30) - 1})
		case 5:
			d.Jobs = append(d.Jobs, api.Job{Name: name, Prio: r.Intn(1002)})
		case 6:
			d.Nodes = append(d.Nodes, api.Node{Name: name, Room: r.Intn(3) - 1})
		case 7:
			d.Leases = d.Leases[:len(d.Leases)/2]
		case 8:
			d.GoneLeases = d.GoneLeases[:len(d.GoneLeases)/2]
		case 9:
			d.Jobs = d.Jobs[:len(d.Jobs)/2]
		}
	}
	return d
}

// inserted returns list with a name, usually at its place.
func inserted(list []string, name string, r *rand.Rand) []string {
	at, _ := slices.BinarySearch(list, name)
	if r.Intn(6) == 0 {
		at = r.Intn(len(list) + 1)
	}
	return slices.Insert(slices.Clone(list), at, name)
}

// enough checks that the random inputs lead to each of the results.
func enough(t *testing.T, seen map[api.Errno]int, results ...api.Errno) {
	t.Helper()
	for _, e := range results {
		if seen[e] < 50 {
			t.Errorf("only %d inputs have the result %d", seen[e], e)
		}
	}
}

func TestDiffByRule(t *testing.T) {
	r := rand.New(rand.NewSource(8))
	seen := map[api.Errno]int{}
	for range 20000 {
		a, b := randomState(r), randomState(r)
		want, wantErrno := diffByRule(a, b), api.OK
		if e := state.Check(a); e != api.OK {
			want, wantErrno = api.Delta{}, e
		} else if e := state.Check(b); e != api.OK {
			want, wantErrno = api.Delta{}, e
		} else if b.Rev <= a.Rev {
			want, wantErrno = api.Delta{}, api.ErrArg
		}
		seen[wantErrno]++
		wantDiff(t, a, b, want, wantErrno)
		if wantErrno != api.OK {
			continue
		}
		// A delta from one state to another is valid, leads there, and survives its encoding.
		wantCheck(t, "a difference", want, api.OK)
		wantApply(t, a, want, b, api.OK)
		bytes, _ := Encode(want)
		wantDecode(t, bytes, want, api.OK)
	}
	enough(t, seen, api.OK, api.ErrArg, api.ErrRoom)
}

func TestApplyByRule(t *testing.T) {
	r := rand.New(rand.NewSource(9))
	checks, results := map[api.Errno]int{}, map[api.Errno]int{}
	for range 40000 {
		s := randomState(r)
		d := randomDelta(s, r)
		wantErrno := checkByRule(d)
		checks[wantErrno]++
		if e := Check(d); e != wantErrno {
			t.Fatalf("Check(%+v) = %d, want %d", d, e, wantErrno)
		}
		bytes := ""
		if wantErrno == api.OK {
			bytes = encodeByRule(d)
		}
		if b, e := Encode(d); b != bytes || e != wantErrno {
			t.Fatalf("Encode(%+v) = %q, %d, want %q, %d", d, b, e, bytes, wantErrno)
		}
		want, wantErrno := applyByRule(s, d)
		results[wantErrno]++
		wantApply(t, s, d, want, wantErrno)
	}
	enough(t, checks, api.OK, api.ErrArg, api.ErrForm, api.ErrOrder, api.ErrTwice)
	enough(t, results, api.OK, api.ErrArg, api.ErrForm, api.ErrOrder, api.ErrTwice, api.ErrOld, api.ErrNone, api.ErrRoom)
}

// damaged returns b with a change somewhere.
func damaged(b string, r *rand.Rand) string {
	at := r.Intn(len(b))
	bytes := []string{"\x00", "\x01", "\x02", "\x10", "\x11", "\x14", "\x15", "\x28", "\x29", "\x7f", "\x80", "\xff", "a", "z", num(1 << 62), num(1<<62 + 1)}
	other := bytes[r.Intn(len(bytes))]
	switch r.Intn(5) {
	case 0:
		return b[:at]
	case 1:
		return b[:at] + other + b[at:]
	case 2:
		return b[:at] + b[at+1:]
	case 3:
		return b[:at] + string([]byte{b[at] + byte(r.Intn(5)) - 2}) + b[at+1:]
	}
	return b[:at] + other + b[at+1:]
}

// inputs holds encodings, most of them damaged.
func inputs() []string {
	r := rand.New(rand.NewSource(10))
	var all []string
	for range 8000 {
		b := encodeByRule(randomDelta(randomState(r), r))
		all = append(all, b, damaged(b, r), damaged(damaged(b, r)+"\x00", r))
	}
	for range 8000 {
		b := make([]byte, r.Intn(12))
		for i := range b {
			b[i] = byte(r.Intn(3))
			if r.Intn(10) == 0 {
				b[i] = byte(r.Intn(256))
			}
		}
		all = append(all, string(b))
	}
	return all
}

func TestDecodeByRule(t *testing.T) {
	seen := map[api.Errno]int{}
	for _, b := range inputs() {
		want, wantErrno := decodeByRule(b)
		seen[wantErrno]++
		wantDecode(t, b, want, wantErrno)
		if wantErrno != api.OK {
			continue
		}
		// What can be decoded is the only encoding of its delta.
		if again, e := Encode(want); again != b || e != api.OK {
			t.Fatalf("Encode(%+v) = %q, %d, want %q", want, again, e, b)
		}
	}
	enough(t, seen, api.OK, api.ErrArg, api.ErrLarge, api.ErrShort, api.ErrForm, api.ErrOrder, api.ErrTwice)
}

// P1

// oddStates and oddDeltas hold arguments with extreme values.

func oddStates() []api.State {
	long := strings.Repeat("\xff", 1<<20)
	return []api.State{
		{}, before(), after(), fullState("x", 1),
		{Rev: math.MinInt}, {Rev: math.MaxInt},
		{Jobs: make([]api.Job, 1<<16)}, {Nodes: make([]api.Node, 1<<16)}, {Leases: make([]api.Lease, 1<<16)},
		{Jobs: []api.Job{{Name: long, Prio: math.MinInt, Need: math.MinInt, Tries: math.MinInt, Tag: long}}},
		{Nodes: []api.Node{{Name: long, Room: math.MinInt, Zone: long}}},
		{Leases: []api.Lease{{Job: long, Node: long, Until: math.MinInt}}},
	}
}

func oddDeltas() []api.Delta {
	all := []api.Delta{
		{}, sample(), full(),
		{From: math.MinInt, To: math.MaxInt}, {From: math.MaxInt, To: math.MinInt}, {From: math.MaxInt, To: math.MaxInt}, {From: math.MinInt, To: math.MinInt},
		{To: 1, GoneJobs: make([]string, 1<<16)}, {To: 1, GoneNodes: make([]string, 1<<16)}, {To: 1, GoneLeases: make([]string, 1<<16)},
		{To: 1, GoneJobs: []string{strings.Repeat("\xff", 1<<20)}},
	}
	for _, s := range oddStates() {
		all = append(all, api.Delta{To: 1, Jobs: s.Jobs, Nodes: s.Nodes, Leases: s.Leases})
	}
	return all
}

func TestNothingPanics(t *testing.T) {
	defer func() {
		if p := recover(); p != nil {
			t.Error(p)
		}
	}()
	for _, d := range oddDeltas() {
		Check(d)
		Encode(d)
		for _, s := range oddStates() {
			Apply(s, d)
		}
	}
	for _, a := range oddStates() {
		for _, b := range oddStates() {
			Diff(a, b)
		}
	}
	for first := range 256 {
		for second := range 256 {
			b := string([]byte{byte(first), byte(second)})
			Decode(b)
			Decode("\x00\x01" + b + "\x01\x01a")
			Decode("\x00\x01\x00\x00\x00" + b)
		}
	}
	for _, filler := range []string{"\x00", "\x01", "\x02", "\x14", "\x28", "\x80", "\xff"} {
		Decode(strings.Repeat(filler, 6000))
		Decode(strings.Repeat(filler, 1<<20))
	}
}

// P2

// spare returns a copy of rows with unused capacity, which holds its first row.
func spare[T any](rows []T) []T {
	more := slices.Clone(rows)
	for range 5 {
		more = append(more, rows[0])
	}
	return more[:len(rows)]
}

// withSpare returns rows with their unused capacity, in memory of its own.
func withSpare[T any](rows []T) []T {
	return slices.Clone(rows[:cap(rows)])
}

// spareState returns a state with unused capacity everywhere.
func spareState(s api.State) api.State {
	return api.State{Rev: s.Rev, Jobs: spare(s.Jobs), Nodes: spare(s.Nodes), Leases: spare(s.Leases)}
}

// allOfState returns a copy of a state with its unused capacity.
func allOfState(s api.State) api.State {
	return api.State{Rev: s.Rev, Jobs: withSpare(s.Jobs), Nodes: withSpare(s.Nodes), Leases: withSpare(s.Leases)}
}

// spareDelta returns a delta with unused capacity everywhere.
func spareDelta(d api.Delta) api.Delta {
	d.Jobs, d.Nodes, d.Leases = spare(d.Jobs), spare(d.Nodes), spare(d.Leases)
	d.GoneJobs, d.GoneNodes, d.GoneLeases = spare(d.GoneJobs), spare(d.GoneNodes), spare(d.GoneLeases)
	return d
}

// allOfDelta returns a copy of a delta with its unused capacity.
func allOfDelta(d api.Delta) api.Delta {
	d.Jobs, d.Nodes, d.Leases = withSpare(d.Jobs), withSpare(d.Nodes), withSpare(d.Leases)
	d.GoneJobs, d.GoneNodes, d.GoneLeases = withSpare(d.GoneJobs), withSpare(d.GoneNodes), withSpare(d.GoneLeases)
	return d
}

func TestArgumentsAreNotModified(t *testing.T) {
	none, room := sample(), sample()
	none.GoneLeases = []string{"c", "q"}
	room.Nodes[0].Room = 0
	a, b := spareState(before()), spareState(after())
	a1, b1 := allOfState(a), allOfState(b)
	Diff(a, b)
	Diff(b, a)
	for i, d := range []api.Delta{sample(), full(), none, room} {
		d = spareDelta(d)
		d1 := allOfDelta(d)
		Check(d)
		Encode(d)
		Apply(a, d)
		Apply(b, d)
		if !reflect.DeepEqual(allOfDelta(d), d1) {
			t.Errorf("delta %d was modified", i)
		}
	}
	if !reflect.DeepEqual(allOfState(a), a1) || !reflect.DeepEqual(allOfState(b), b1) {
		t.Error("a state was modified")
	}
}

func TestResultsDependOnArgumentsOnly(t *testing.T) {
	type result struct {
		s       api.State
		d, read api.Delta
		bytes   string
		errors  [5]api.Errno
	}
	type input struct {
		a, b  api.State
		d     api.Delta
		bytes string
	}
	run := func(in input) (r result) {
		r.errors[0] = Check(in.d)
		r.d, r.errors[1] = Diff(in.a, in.b)
		r.s, r.errors[2] = Apply(in.a, in.d)
		r.bytes, r.errors[3] = Encode(in.d)
		r.read, r.errors[4] = Decode(in.bytes)
		return r
	}
	r := rand.New(rand.NewSource(11))
	var all []input
	for _, bytes := range inputs()[:6000] {
		a := randomState(r)
		all = append(all, input{a, randomState(r), randomDelta(a, r), bytes})
	}
	first := make([]result, len(all))
	for i, in := range all {
		first[i] = run(in)
	}
	for i := len(all) - 1; i >= 0; i-- {
		if again := run(all[i]); !reflect.DeepEqual(again, first[i]) {
			t.Errorf("input %d: first %+v, then %+v", i, first[i], again)
		}
	}
}

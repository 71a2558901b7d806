package state

import (
	"fmt"
	"math"
	"math/rand"
	"reflect"
	"slices"
	"strings"
	"testing"
	"unicode/utf8"

	"bracken/api"
)

// sample returns a valid state: node m is full, node n has room, node o is empty.
func sample() api.State {
	return api.State{
		Rev: 7,
		Jobs: []api.Job{
			{Name: "a", Prio: -5, Need: 3, Tries: 1, Tag: "red"},
			{Name: "b", Need: 4},
			{Name: "c", Prio: 9, Need: 5, Tries: 2},
			{Name: "d", Need: 100},
		},
		Nodes: []api.Node{
			{Name: "m", Room: 8, Zone: "west"},
			{Name: "n", Room: 9},
			{Name: "o"},
		},
		Leases: []api.Lease{
			{Job: "a", Node: "m", Until: 10},
			{Job: "b", Node: "n", Until: 20},
			{Job: "c", Node: "m"},
		},
	}
}

// full returns a state with as many rows as there may be, and with the largest numbers and texts.
func full() api.State {
	s := api.State{Rev: api.MaxTime}
	for i := range api.MaxJobs {
		name := fmt.Sprintf("job-%012d", i)
		s.Jobs = append(s.Jobs, api.Job{Name: name, Prio: 1000, Need: 500000, Tries: 100, Tag: strings.Repeat("t", 16)})
		s.Leases = append(s.Leases, api.Lease{Job: name, Node: fmt.Sprintf("node%012d", i/2), Until: 1 << 40})
	}
	for i := range api.MaxNodes {
		s.Nodes = append(s.Nodes, api.Node{Name: fmt.Sprintf("node%012d", i), Room: 1000000, Zone: strings.Repeat("z", 16)})
	}
	return s
}

// change is a way to alter sample, and the error of Check for the result.
type change struct {
	name string
	turn func(s *api.State)
	want api.Errno
}

// run checks the result of Check after every change.
func run(t *testing.T, changes []change) {
	t.Helper()
	for _, c := range changes {
		s := sample()
		c.turn(&s)
		if e := Check(s); e != c.want {
			t.Errorf("%s: Check = %d, want %d", c.name, e, c.want)
		}
	}
}

// texts holds strings at the limits; the value tells whether the string is a note.
func texts() map[string]bool {
	return map[string]bool{
		"":                               true,
		"x":                              true,
		"\x00":                           true,
		"two words":                      true,
		"é":                              true,
		"\ufffd":                         true,
		"\U0010ffff":                     true,
		strings.Repeat("x", 15):          true,
		strings.Repeat("x", 16):          true,
		strings.Repeat("é", 8):           true,
		strings.Repeat("x", 17):          false,
		strings.Repeat("x", 15) + "é":    false, // sixteen characters, seventeen bytes
		strings.Repeat("é", 9):           false,
		strings.Repeat("x", 1000):        false,
		"\xff":                           false,
		"\x80":                           false,
		"x\xc3":                          false,
		"\xc0\x80":                       false, // longer than needed
		"\xed\xa0\x80":                   false, // a surrogate
		"\xf4\x90\x80\x80":               false, // above the largest code point
		strings.Repeat("x", 15) + "\xc3": false,
	}
}

// P9

func TestValidStates(t *testing.T) {
	empty := api.State{}
	for i, s := range []api.State{
		empty,
		{Jobs: []api.Job{}, Nodes: []api.Node{}, Leases: []api.Lease{}},
		{Rev: 1 << 40},
		{Jobs: []api.Job{{Name: "a"}}},
		{Nodes: []api.Node{{Name: "n"}}},
		{Jobs: []api.Job{{Name: "x"}}, Nodes: []api.Node{{Name: "x"}}, Leases: []api.Lease{{Job: "x", Node: "x"}}},
		sample(),
		full(),
	} {
		if e := Check(s); e != api.OK {
			t.Errorf("state %d: Check = %d", i, e)
		}
	}
}

func TestRev(t *testing.T) {
	for rev, want := range map[int]api.Errno{
		0: api.OK, 1: api.OK, 1<<40 - 1: api.OK, 1 << 40: api.OK,
		-1: api.ErrArg, 1<<40 + 1: api.ErrArg, math.MinInt: api.ErrArg, math.MaxInt: api.ErrArg,
	} {
		run(t, []change{{fmt.Sprint("Rev ", rev), func(s *api.State) { s.Rev = rev }, want}})
	}
}

func TestNumberOfRows(t *testing.T) {
	s := full()
	job := append(slices.Clone(s.Jobs), api.Job{Name: "k"})
	node := append(slices.Clone(s.Nodes), api.Node{Name: "o"})
	lease := append(slices.Clone(s.Leases), api.Lease{Job: "k", Node: s.Nodes[0].Name})
	for i, c := range []struct {
		s    api.State
		want api.Errno
	}{
		{api.State{Jobs: s.Jobs, Nodes: s.Nodes, Leases: s.Leases}, api.OK},
		{api.State{Jobs: job}, api.ErrLarge},
		{api.State{Nodes: node}, api.ErrLarge},
		{api.State{Jobs: s.Jobs, Nodes: s.Nodes, Leases: lease}, api.ErrLarge},
		{api.State{Leases: make([]api.Lease, 40)}, api.ErrNone},
		{api.State{Leases: make([]api.Lease, 41)}, api.ErrLarge},
		{api.State{Jobs: make([]api.Job, 40)}, api.ErrForm},
		{api.State{Jobs: make([]api.Job, 41)}, api.ErrLarge},
		{api.State{Nodes: make([]api.Node, 20)}, api.ErrForm},
		{api.State{Nodes: make([]api.Node, 21)}, api.ErrLarge},
		// A row that is not valid does not come before the number of rows of another table.
		{api.State{Jobs: make([]api.Job, 1), Leases: make([]api.Lease, 41)}, api.ErrLarge},
		{api.State{Jobs: make([]api.Job, 1), Nodes: make([]api.Node, 21)}, api.ErrLarge},
		// Rev comes before it.
		{api.State{Rev: -1, Jobs: make([]api.Job, 41)}, api.ErrArg},
	} {
		if e := Check(c.s); e != c.want {
			t.Errorf("state %d: Check = %d, want %d", i, e, c.want)
		}
	}
}

func TestTexts(t *testing.T) {
	for text, note := range texts() {
		name, tag := api.OK, api.OK
		if !note {
			tag = api.ErrForm
		}
		if !note || text == "" {
			name = api.ErrForm
		}
		for _, c := range []struct {
			s    api.State
			want api.Errno
		}{
			{api.State{Jobs: []api.Job{{Name: text}}}, name},
			{api.State{Nodes: []api.Node{{Name: text}}}, name},
			{api.State{Jobs: []api.Job{{Name: "a", Tag: text}}}, tag},
			{api.State{Nodes: []api.Node{{Name: "a", Zone: text}}}, tag},
		} {
			if e := Check(c.s); e != c.want {
				t.Errorf("Check(%#v) = %d, want %d", c.s, e, c.want)
			}
		}
	}
}

func TestNumbers(t *testing.T) {
	for _, c := range []struct {
		name      string
		low, high int
		turn      func(s *api.State, n int)
	}{
		{"Prio", -1000, 1000, func(s *api.State, n int) { s.Jobs[3].Prio = n }},
		{"Need", 0, 1000000, func(s *api.State, n int) { s.Jobs[3].Need = n }},
		{"Tries", 0, 100, func(s *api.State, n int) { s.Jobs[3].Tries = n }},
		{"Room", 0, 1000000, func(s *api.State, n int) { s.Nodes[2].Room = n }},
		{"Until", 0, 1 << 40, func(s *api.State, n int) { s.Leases[1].Until = n }},
	} {
		for _, n := range []int{c.low, c.low + 1, c.high - 1, c.high} {
			run(t, []change{{fmt.Sprint(c.name, " ", n), func(s *api.State) { c.turn(s, n) }, api.OK}})
		}
		for _, n := range []int{c.low - 1, c.high + 1, math.MinInt, math.MaxInt} {
			run(t, []change{{fmt.Sprint(c.name, " ", n), func(s *api.State) { c.turn(s, n) }, api.ErrArg}})
		}
	}
}

func TestOrder(t *testing.T) {
	pairs := []struct {
		first, second string
		want          api.Errno
	}{
		{"a", "b", api.OK}, {"a", "aa", api.OK}, {"B", "a", api.OK}, {"z", "é", api.OK}, {"a", "a\x00", api.OK},
		{"10", "9", api.OK}, {"\uffff", "\U00010000", api.OK}, // bytewise
		{"a", "a", api.ErrOrder}, {"b", "a", api.ErrOrder}, {"aa", "a", api.ErrOrder}, {"a", "B", api.ErrOrder}, {"é", "z", api.ErrOrder},
		{"9", "10", api.ErrOrder},
	}
	for _, p := range pairs {
		jobs := []api.Job{{Name: p.first}, {Name: p.second}}
		nodes := []api.Node{{Name: p.first}, {Name: p.second}}
		leases := []api.Lease{{Job: p.first, Node: "n"}, {Job: p.second, Node: "n"}}
		both := slices.Clone(jobs)
		slices.SortFunc(both, func(a, b api.Job) int { return strings.Compare(a.Name, b.Name) })
		both = slices.Compact(both)
		for i, s := range []api.State{
			{Jobs: jobs}, {Nodes: nodes},
			{Jobs: both, Nodes: []api.Node{{Name: "n"}}, Leases: leases},
		} {
			if e := Check(s); e != p.want {
				t.Errorf("table %d, %q before %q: Check = %d, want %d", i, p.first, p.second, e, p.want)
			}
		}
	}
	run(t, []change{
		{"the third job", func(s *api.State) { s.Jobs[2].Name = "aa" }, api.ErrOrder},
		{"the last job", func(s *api.State) { s.Jobs[3].Name = "c" }, api.ErrOrder},
		{"the third node", func(s *api.State) { s.Nodes[2].Name = "mm" }, api.ErrOrder},
		{"the third lease", func(s *api.State) { s.Leases[2].Job = "a" }, api.ErrOrder},
		{"the nodes of leases have no order", func(s *api.State) { s.Leases[0].Node = "n" }, api.OK},
	})
}

func TestLeasesHaveJobsAndNodes(t *testing.T) {
	run(t, []change{
		{"no such job", func(s *api.State) { s.Leases[1].Job = "bb" }, api.ErrNone},
		{"no such node", func(s *api.State) { s.Leases[1].Node = "x" }, api.ErrNone},
		{"no job", func(s *api.State) { s.Leases[0].Job = "" }, api.ErrNone},
		{"no node", func(s *api.State) { s.Leases[0].Node = "" }, api.ErrNone},
		{"the name of a node as a job", func(s *api.State) { s.Leases[2].Job = "m" }, api.ErrNone},
		{"the name of a job as a node", func(s *api.State) { s.Leases[2].Node = "a" }, api.ErrNone},
		{"no name at all", func(s *api.State) { s.Leases[2].Job = strings.Repeat("\xff", 100) }, api.ErrNone},
		{"without jobs", func(s *api.State) { s.Jobs = nil }, api.ErrNone},
		{"without nodes", func(s *api.State) { s.Nodes = nil }, api.ErrNone},
		{"without leases", func(s *api.State) { s.Leases = nil }, api.OK},
		{"without anything", func(s *api.State) { *s = api.State{} }, api.OK},
	})
}

func TestRoom(t *testing.T) {
	run(t, []change{
		{"one less than needed", func(s *api.State) { s.Nodes[0].Room = 7 }, api.ErrRoom},
		{"no room", func(s *api.State) { s.Nodes[1].Room = 0 }, api.ErrRoom},
		{"one more needed", func(s *api.State) { s.Jobs[2].Need++ }, api.ErrRoom},
		{"just enough", func(s *api.State) { s.Jobs[1].Need = 9 }, api.OK},
		{"nothing needed", func(s *api.State) { s.Jobs[1].Need, s.Nodes[1].Room = 0, 0 }, api.OK},
		{"a job without a lease needs no room", func(s *api.State) { s.Jobs[3].Need = 1000000 }, api.OK},
		{"a lease on the last node", func(s *api.State) { s.Leases[2].Node = "o" }, api.ErrRoom},
		{"a lease that is over still counts", func(s *api.State) { s.Leases[0].Until, s.Jobs[0].Need = 0, 4 }, api.ErrRoom},
		{"the room of other nodes does not help", func(s *api.State) { s.Nodes[0].Room, s.Nodes[1].Room = 7, 1000000 }, api.ErrRoom},
	})
	s := full()
	s.Jobs[39].Need++
	if e := Check(s); e != api.ErrRoom {
		t.Errorf("the last job needs too much: Check = %d", e)
	}
}

// Each change makes two errors; the one that the chapter mentions first counts.
func TestFirstErrorCounts(t *testing.T) {
	long := strings.Repeat("x", 17)
	run(t, []change{
		{"Rev before jobs", func(s *api.State) { s.Rev = -1; s.Jobs[0].Name = "" }, api.ErrArg},
		{"form before numbers of a job", func(s *api.State) { s.Jobs[1].Prio = 1001; s.Jobs[1].Tag = long }, api.ErrForm},
		{"form before order of a job", func(s *api.State) { s.Jobs[1].Name = "" }, api.ErrForm},
		{"Tag before order of a job", func(s *api.State) { s.Jobs[1].Name = "a"; s.Jobs[1].Tag = "\xff" }, api.ErrForm},
		{"numbers before order of a job", func(s *api.State) { s.Jobs[1].Name = "a"; s.Jobs[1].Tries = 101 }, api.ErrArg},
		{"order before the next job", func(s *api.State) { s.Jobs[1].Name = "a"; s.Jobs[2].Name = "" }, api.ErrOrder},
		{"numbers before the next job", func(s *api.State) { s.Jobs[1].Need = -1; s.Jobs[2].Name = "" }, api.ErrArg},
		{"jobs before nodes", func(s *api.State) { s.Jobs[3].Name = "a"; s.Nodes[0].Name = "" }, api.ErrOrder},
		{"form before numbers of a node", func(s *api.State) { s.Nodes[1].Room = -1; s.Nodes[1].Zone = long }, api.ErrForm},
		{"Zone before order of a node", func(s *api.State) { s.Nodes[1].Name = "m"; s.Nodes[1].Zone = "\xff" }, api.ErrForm},
		{"numbers before order of a node", func(s *api.State) { s.Nodes[1].Name = "m"; s.Nodes[1].Room = 1000001 }, api.ErrArg},
		{"order before the next node", func(s *api.State) { s.Nodes[1].Name = "a"; s.Nodes[2].Room = -1 }, api.ErrOrder},
		{"nodes before leases", func(s *api.State) { s.Nodes[2].Name = "n"; s.Leases[0].Job = "x" }, api.ErrOrder},
		{"jobs before leases", func(s *api.State) { s.Jobs[2].Need = -1; s.Leases[0].Job = "x" }, api.ErrArg},
		{"names before numbers of a lease", func(s *api.State) { s.Leases[1].Until = -1; s.Leases[1].Node = "x" }, api.ErrNone},
		{"names before order of a lease", func(s *api.State) { s.Leases[1].Job = "A" }, api.ErrNone},
		{"the node before order of a lease", func(s *api.State) { s.Leases[1].Job = "a"; s.Leases[1].Node = "x" }, api.ErrNone},
		{"numbers before order of a lease", func(s *api.State) { s.Leases[1].Job = "a"; s.Leases[1].Until = -1 }, api.ErrArg},
		{"order before the next lease", func(s *api.State) { s.Leases[1].Job = "a"; s.Leases[2].Node = "x" }, api.ErrOrder},
		{"numbers before the next lease", func(s *api.State) { s.Leases[1].Until = -1; s.Leases[2].Node = "x" }, api.ErrArg},
		{"leases before room", func(s *api.State) { s.Nodes[0].Room = 0; s.Leases[2].Until = -1 }, api.ErrArg},
		{"order of leases before room", func(s *api.State) { s.Leases[1] = s.Leases[0]; s.Nodes[0].Room = 3 }, api.ErrOrder},
	})
}

// P10

func TestFits(t *testing.T) {
	plain := sample()
	plain.Rev, plain.Jobs[0].Tag, plain.Nodes[0].Zone = 0, "", ""
	plain.Jobs[0].Tries, plain.Jobs[2].Tries = 0, 0
	for i, c := range []struct {
		turn func(s *api.State)
		from int // the lowest version that the state fits
	}{
		{func(s *api.State) {}, 1},
		{func(s *api.State) { *s = api.State{} }, 1},
		{func(s *api.State) { s.Jobs[0].Tries = 1 }, 2},
		{func(s *api.State) { s.Jobs[3].Tries = 100 }, 2},
		{func(s *api.State) { s.Nodes[0].Zone = "-" }, 2},
		{func(s *api.State) { s.Nodes[2].Zone = "\x00" }, 2},
		{func(s *api.State) { s.Jobs[1].Tries, s.Nodes[1].Zone = 1, "z" }, 2},
		{func(s *api.State) { s.Rev = 1 }, 3},
		{func(s *api.State) { *s = api.State{Rev: 1 << 40} }, 3},
		{func(s *api.State) { s.Jobs[0].Tag = "t" }, 3},
		{func(s *api.State) { s.Jobs[3].Tag = "\x00" }, 3},
		{func(s *api.State) { s.Jobs[3].Tag, s.Jobs[3].Tries = "t", 1 }, 3},
		{func(s *api.State) { *s = sample() }, 3},
		{func(s *api.State) { *s = full() }, 3},
	} {
		s := plain
		s.Jobs, s.Nodes, s.Leases = slices.Clone(plain.Jobs), slices.Clone(plain.Nodes), slices.Clone(plain.Leases)
		c.turn(&s)
		for version := 1; version <= 3; version++ {
			if ok, e := Fits(s, version); ok != (version >= c.from) || e != api.OK {
				t.Errorf("state %d: Fits in version %d = %t, %d", i, version, ok, e)
			}
		}
	}
}

func TestFitsErrors(t *testing.T) {
	bad := sample()
	bad.Nodes[0].Room = 7
	for _, version := range []int{0, -1, 4, math.MinInt, math.MaxInt, 257} {
		for _, s := range []api.State{{}, sample()} {
			if ok, e := Fits(s, version); ok || e != api.ErrArg {
				t.Errorf("Fits in version %d = %t, %d", version, ok, e)
			}
		}
		// The error of the state comes before that of the version.
		if ok, e := Fits(bad, version); ok || e != api.ErrRoom {
			t.Errorf("Fits of a bad state in version %d = %t, %d", version, ok, e)
		}
	}
	for version := 1; version <= 3; version++ {
		if ok, e := Fits(bad, version); ok || e != api.ErrRoom {
			t.Errorf("Fits of a bad state in version %d = %t, %d", version, ok, e)
		}
	}
}

func TestUsed(t *testing.T) {
	for node, want := range map[string]int{"m": 8, "n": 4, "o": 0} {
		if n, e := Used(sample(), node); n != want || e != api.OK {
			t.Errorf("Used of %q = %d, %d, want %d", node, n, e, want)
		}
	}
	s := full()
	for _, node := range s.Nodes {
		if n, e := Used(s, node.Name); n != 1000000 || e != api.OK {
			t.Errorf("Used of %q = %d, %d", node.Name, n, e)
		}
	}
}

func TestUsedErrors(t *testing.T) {
	bad := sample()
	bad.Jobs[0].Need = -1
	for _, node := range []string{"", "a", "M", "mm", "m\x00", "\xff", strings.Repeat("m", 1000)} {
		if n, e := Used(sample(), node); n != 0 || e != api.ErrNone {
			t.Errorf("Used of %q = %d, %d", node, n, e)
		}
		if n, e := Used(api.State{}, node); n != 0 || e != api.ErrNone {
			t.Errorf("Used of %q in the empty state = %d, %d", node, n, e)
		}
	}
	for _, node := range []string{"m", "n", "o", "x", ""} {
		if n, e := Used(bad, node); n != 0 || e != api.ErrArg {
			t.Errorf("Used of %q in a bad state = %d, %d", node, n, e)
		}
	}
}

// checkByRule follows the chapter sentence by sentence, without maps.
func checkByRule(s api.State) api.Errno {
	if s.Rev < 0 || s.Rev > 1<<40 {
		return 1
	}
	if len(s.Jobs) > 40 || len(s.Leases) > 40 || len(s.Nodes) > 20 {
		return 2
	}
	note := func(x string) bool { return len(x) <= 16 && utf8.ValidString(x) }
	for i, j := range s.Jobs {
		switch {
		case j.Name == "" || !note(j.Name) || !note(j.Tag):
			return 4
		case j.Prio < -1000 || j.Prio > 1000 || j.Need < 0 || j.Need > 1000000 || j.Tries < 0 || j.Tries > 100:
			return 1
		case i > 0 && s.Jobs[i-1].Name >= j.Name:
			return 8
		}
	}
	for i, n := range s.Nodes {
		switch {
		case n.Name == "" || !note(n.Name) || !note(n.Zone):
			return 4
		case n.Room < 0 || n.Room > 1000000:
			return 1
		case i > 0 && s.Nodes[i-1].Name >= n.Name:
			return 8
		}
	}
	for i, l := range s.Leases {
		hasJob := slices.ContainsFunc(s.Jobs, func(j api.Job) bool { return j.Name == l.Job })
		hasNode := slices.ContainsFunc(s.Nodes, func(n api.Node) bool { return n.Name == l.Node })
		switch {
		case !hasJob || !hasNode:
			return 6
		case l.Until < 0 || l.Until > 1<<40:
			return 1
		case i > 0 && s.Leases[i-1].Job >= l.Job:
			return 8
		}
	}
	for _, n := range s.Nodes {
		if usedByRule(s, n.Name) > n.Room {
			return 9
		}
	}
	return 0
}

// usedByRule adds up the Needs on a node job by job.
func usedByRule(s api.State, node string) int {
	sum := 0
	for _, j := range s.Jobs {
		for _, l := range s.Leases {
			if l.Job == j.Name && l.Node == node {
				sum += j.Need
			}
		}
	}
	return sum
}

// fitsByRule follows the chapter for a valid state and a version.
func fitsByRule(s api.State, version int) bool {
	fits := version == 3 || s.Rev == 0
	for _, j := range s.Jobs {
		fits = fits && (version == 3 || j.Tag == "") && (version >= 2 || j.Tries == 0)
	}
	for _, n := range s.Nodes {
		fits = fits && (version >= 2 || n.Zone == "")
	}
	return fits
}

// randomStates holds states that are valid or nearly so.
func randomStates() []api.State {
	r := rand.New(rand.NewSource(1))
	names := []string{"a", "aa", "b", "c", "d", "é", "n", "z"}
	pick := func(l []string) string { return l[r.Intn(len(l))] }
	odd := func(n int, others ...int) int {
		if r.Intn(60) == 0 {
			return others[r.Intn(len(others))]
		}
		return n
	}
	rare := func(s string) string {
		if r.Intn(60) == 0 {
			return pick([]string{"", "x", "\xff", "zzzzzzzzzzzzzzzzz"})
		}
		return s
	}
	var all []api.State
	for range 20000 {
		s := api.State{Rev: odd(r.Intn(2), -1, 1<<40, 1<<40+1)}
		old := r.Intn(2) // often nothing that an old version lacks
		for _, name := range names {
			if r.Intn(2) == 0 {
				s.Jobs = append(s.Jobs, api.Job{Name: rare(name), Prio: odd(0, -1001, 1001, 1000), Need: odd(r.Intn(5), -1, 1000001), Tries: odd(old*r.Intn(2), 101), Tag: rare("")})
			}
			if r.Intn(3) == 0 {
				s.Nodes = append(s.Nodes, api.Node{Name: rare(name), Room: odd(2+r.Intn(9), -1, 1000001, 0), Zone: rare("")})
			}
		}
		for _, j := range s.Jobs {
			if len(s.Nodes) > 0 && r.Intn(2) == 0 {
				s.Leases = append(s.Leases, api.Lease{Job: rare(j.Name), Node: rare(s.Nodes[r.Intn(len(s.Nodes))].Name), Until: odd(r.Intn(9), -1, 1<<40+1)})
			}
		}
		if n := len(s.Leases); n > 1 && r.Intn(20) == 0 {
			s.Leases[0], s.Leases[n-1] = s.Leases[n-1], s.Leases[0]
		}
		if n := len(s.Nodes); n > 1 && r.Intn(20) == 0 {
			s.Nodes[0], s.Nodes[n-1] = s.Nodes[n-1], s.Nodes[0]
		}
		all = append(all, s)
	}
	return all
}

func TestByRule(t *testing.T) {
	seen := map[api.Errno]int{}
	fits := map[int]int{}
	for _, s := range randomStates() {
		want := checkByRule(s)
		seen[want]++
		if e := Check(s); e != want {
			t.Fatalf("Check(%#v) = %d, want %d", s, e, want)
		}
		for version := 0; version <= 4; version++ {
			ok, e := Fits(s, version)
			wantError := want
			if want == api.OK && (version < 1 || version > 3) {
				wantError = api.ErrArg
			}
			wantOK := wantError == api.OK && fitsByRule(s, version)
			if ok != wantOK || e != wantError {
				t.Fatalf("Fits(%#v, %d) = %t, %d, want %t, %d", s, version, ok, e, wantOK, wantError)
			}
			if ok {
				fits[version]++
			}
		}
		for _, node := range []string{"", "a", "aa", "b", "n", "x"} {
			n, e := Used(s, node)
			wantError, wantSum := want, 0
			if want == api.OK {
				if slices.ContainsFunc(s.Nodes, func(n api.Node) bool { return n.Name == node }) {
					wantSum = usedByRule(s, node)
				} else {
					wantError = api.ErrNone
				}
			}
			if n != wantSum || e != wantError {
				t.Fatalf("Used(%#v, %q) = %d, %d, want %d, %d", s, node, n, e, wantSum, wantError)
			}
		}
	}
	for _, e := range []api.Errno{api.OK, api.ErrArg, api.ErrForm, api.ErrNone, api.ErrOrder, api.ErrRoom} {
		if seen[e] < 20 {
			t.Errorf("only %d states have the result %d", seen[e], e)
		}
	}
	if fits[1] < 20 || fits[2] < fits[1]+20 || fits[3] < fits[2]+20 {
		t.Errorf("the versions fit %v states", fits)
	}
}

// What the packages above use

func TestIsName(t *testing.T) {
	for s, note := range texts() {
		if IsName(s) != (note && s != "") {
			t.Errorf("IsName(%q) = %t", s, IsName(s))
		}
	}
}

func TestCheckLease(t *testing.T) {
	for _, c := range []struct {
		lease api.Lease
		want  api.Errno
	}{
		{api.Lease{Job: "a", Node: "n"}, api.OK},
		{api.Lease{Job: "a", Node: "a", Until: 1 << 40}, api.OK},
		{api.Lease{Node: "n"}, api.ErrForm},
		{api.Lease{Job: "a"}, api.ErrForm},
		{api.Lease{Job: "\xff", Node: "n", Until: -1}, api.ErrForm},
		{api.Lease{Job: "a", Node: strings.Repeat("n", 17), Until: -1}, api.ErrForm},
		{api.Lease{Job: "a", Node: "n", Until: -1}, api.ErrArg},
		{api.Lease{Job: "a", Node: "n", Until: 1<<40 + 1}, api.ErrArg},
	} {
		if e := CheckLease(c.lease); e != c.want {
			t.Errorf("CheckLease(%+v) = %d, want %d", c.lease, e, c.want)
		}
	}
}

func TestCopy(t *testing.T) {
	for _, s := range []api.State{{}, {Rev: 1 << 40}, sample(), full()} {
		if c := Copy(s); !reflect.DeepEqual(c, s) {
			t.Errorf("Copy(%+v) = %+v", s, c)
		}
	}
}

// P1

func TestNothingPanics(t *testing.T) {
	defer func() {
		if p := recover(); p != nil {
			t.Error(p)
		}
	}()
	long := strings.Repeat("\xff", 1<<20)
	for _, s := range []api.State{
		{}, sample(), full(),
		{Rev: math.MinInt}, {Rev: math.MaxInt},
		{Jobs: make([]api.Job, 1<<16)}, {Nodes: make([]api.Node, 1<<16)}, {Leases: make([]api.Lease, 1<<16)},
		{Jobs: []api.Job{{}, {}}}, {Nodes: []api.Node{{}, {}}}, {Leases: []api.Lease{{}, {}}},
		{Jobs: []api.Job{{Name: long, Prio: math.MinInt, Need: math.MaxInt, Tries: math.MinInt, Tag: long}}},
		{Nodes: []api.Node{{Name: long, Room: math.MinInt, Zone: long}}},
		{Leases: []api.Lease{{Job: long, Node: long, Until: math.MinInt}}},
		{Jobs: []api.Job{{Name: "a", Need: math.MaxInt}, {Name: "b", Need: math.MaxInt}}, Nodes: []api.Node{{Name: "n"}}, Leases: []api.Lease{{Job: "a", Node: "n"}, {Job: "b", Node: "n"}}},
	} {
		Check(s)
		for _, version := range []int{math.MinInt, -1, 0, 1, 2, 3, 4, math.MaxInt} {
			Fits(s, version)
		}
		for _, node := range []string{"", "n", "m", long} {
			Used(s, node)
		}
	}
}

// P2

// spare returns a copy of rows with unused capacity, which holds its first row.
func spare[T any](rows []T) []T {
	more := slices.Clone(rows)
	for range 5 {
		more = append(more, rows[0])
	}
	return more[:len(rows)]
}

func TestArgumentsAreNotModified(t *testing.T) {
	room := sample()
	room.Nodes[1].Room = 0
	order := sample()
	order.Leases[0], order.Leases[2] = order.Leases[2], order.Leases[0]
	for _, s := range []api.State{sample(), full(), room, order} {
		s.Jobs, s.Nodes, s.Leases = spare(s.Jobs), spare(s.Nodes), spare(s.Leases)
		whole := func() api.State {
			return api.State{Rev: s.Rev, Jobs: s.Jobs[:cap(s.Jobs)], Nodes: s.Nodes[:cap(s.Nodes)], Leases: s.Leases[:cap(s.Leases)]}
		}
		before := whole()
		before.Jobs, before.Nodes, before.Leases = slices.Clone(before.Jobs), slices.Clone(before.Nodes), slices.Clone(before.Leases)
		Check(s)
		for version := 0; version <= 4; version++ {
			Fits(s, version)
		}
		Used(s, "m")
		Used(s, "x")
		if !reflect.DeepEqual(whole(), before) {
			t.Errorf("a state of %d jobs was modified", len(s.Jobs))
		}
	}
}

func TestResultsDependOnArgumentsOnly(t *testing.T) {
	type result struct {
		fits   [5]bool
		used   int
		errors [7]api.Errno
	}
	run := func(s api.State) (r result) {
		r.errors[0] = Check(s)
		for version := range r.fits {
			r.fits[version], r.errors[1+version] = Fits(s, version)
		}
		r.used, r.errors[6] = Used(s, "a")
		return r
	}
	all := append(randomStates(), sample(), full(), api.State{})
	first := make([]result, len(all))
	for i, s := range all {
		first[i] = run(s)
	}
	for i := len(all) - 1; i >= 0; i-- {
		if again := run(all[i]); again != first[i] {
			t.Errorf("state %d: first %v, then %v", i, first[i], again)
		}
	}
	// A nil slice and an empty one are the same.
	s := api.State{Jobs: []api.Job{}, Nodes: []api.Node{}, Leases: []api.Lease{}}
	if run(s) != run(api.State{}) {
		t.Error("empty slices differ from nil slices")
	}
}

package up

import (
	"fmt"
	"math"
	"math/rand"
	"reflect"
	"slices"
	"strings"
	"testing"

	"bracken/api"
	"bracken/state"
	"bracken/wire"
)

// oldest returns a state of version 1: the jobs b and c have leases, and x is both a job without one and a node with two.
func oldest() api.State {
	return api.State{
		Jobs: []api.Job{
			{Name: "a", Prio: -5, Need: 3},
			{Name: "b", Prio: 7, Need: 4},
			{Name: "c"},
			{Name: "x", Need: 1000000},
		},
		Nodes: []api.Node{
			{Name: "m", Room: 8},
			{Name: "x", Room: 4},
		},
		Leases: []api.Lease{
			{Job: "b", Node: "x", Until: 9},
			{Job: "c", Node: "x"}, // over, but still a lease
		},
	}
}

// raised returns what oldest is in a version.
func raised(version int) api.State {
	s := oldest()
	if version >= 2 {
		s.Jobs[1].Tries, s.Jobs[2].Tries = 1, 1
		s.Nodes[0].Zone, s.Nodes[1].Zone = "-", "-"
	}
	if version >= 3 {
		s.Rev = 1
	}
	return s
}

// middle returns a state of version 2 that does not come from version 1: b has a lease and was not tried, a the other way round.
func middle() api.State {
	s := oldest()
	s.Jobs[0].Tries, s.Jobs[2].Tries = 100, 2
	s.Nodes[0].Zone = "west"
	return s
}

// newest returns a state of version 3 that does not come from version 2.
func newest() api.State {
	s := middle()
	s.Rev = 300
	s.Jobs[1].Tag = "red"
	return s
}

// full returns a state of version 3 with as many rows as there may be, and with the largest numbers and texts.
func full() api.State {
	s := api.State{Rev: api.MaxTime}
	for i := range api.MaxJobs {
		name := fmt.Sprintf("job-%012d", i)
		s.Jobs = append(s.Jobs, api.Job{Name: name, Prio: 1000, Need: 500000, Tries: 100, Tag: strings.Repeat("t", 16)})
		s.Leases = append(s.Leases, api.Lease{Job: name, Node: fmt.Sprintf("node%012d", i/2), Until: 1 << 40})
	}
	for i := range api.MaxNodes {
		s.Nodes = append(s.Nodes, api.Node{Name: fmt.Sprintf("node%012d", i), Room: 1000000, Zone: strings.Repeat("z", 16)})
	}
	return s
}

// equal reports whether two states are equal; a nil slice equals an empty one.
func equal(a, b api.State) bool {
	return a.Rev == b.Rev && slices.Equal(a.Jobs, b.Jobs) && slices.Equal(a.Nodes, b.Nodes) && slices.Equal(a.Leases, b.Leases)
}

// wantState checks the result of State; with an error, the state must be zero.
func wantState(t *testing.T, s api.State, from, to int, want api.State, wantErrno api.Errno) {
	t.Helper()
	if u, e := State(s, from, to); !equal(u, want) || e != wantErrno {
		t.Errorf("State(%+v, %d, %d) = %+v, %d, want %+v, %d", s, from, to, u, e, want, wantErrno)
	}
}

// wantBytes checks the result of Bytes.
func wantBytes(t *testing.T, b string, from, to int, want string, wantErrno api.Errno) {
	t.Helper()
	if u, e := Bytes(b, from, to); u != want || e != wantErrno {
		t.Errorf("Bytes(%q, %d, %d) = %q, %d, want %q, %d", b, from, to, u, e, want, wantErrno)
	}
}

// wantDown checks the result of Down.
func wantDown(t *testing.T, s api.State, to int, want api.State, wantWhole bool, wantErrno api.Errno) {
	t.Helper()
	if d, whole, e := Down(s, to); !equal(d, want) || whole != wantWhole || e != wantErrno {
		t.Errorf("Down(%+v, %d) = %+v, %t, %d, want %+v, %t, %d", s, to, d, whole, e, want, wantWhole, wantErrno)
	}
}

// invalid returns states that are not valid, by their errors; each of them fits no version before 3, either.
func invalid() map[api.Errno]api.State {
	rev, form, none, order, room := newest(), newest(), newest(), newest(), newest()
	rev.Rev = -1
	form.Jobs[0].Tag = strings.Repeat("x", 17)
	none.Leases[0].Node = "y"
	order.Nodes[1].Name = "m"
	room.Nodes[1].Room = 3
	return map[api.Errno]api.State{
		api.ErrArg: rev, api.ErrLarge: {Rev: 1, Jobs: make([]api.Job, 41)}, api.ErrForm: form,
		api.ErrNone: none, api.ErrOrder: order, api.ErrRoom: room,
	}
}

// badVersions holds numbers that are no versions, also those that are versions if bits are cut off.
func badVersions() []int {
	return []int{0, -1, -2, 4, 5, 257, -255, 1 << 32, 1<<32 + 1, math.MinInt, math.MinInt + 1, math.MaxInt}
}

// P13

func TestStateUpgrades(t *testing.T) {
	for from := 1; from <= 3; from++ {
		for to := from; to <= 3; to++ {
			wantState(t, raised(from), from, to, raised(to), api.OK)
		}
	}
}

func TestStateKeepsWhatAVersionHas(t *testing.T) {
	third := middle()
	third.Rev = 1
	wantState(t, middle(), 2, 2, middle(), api.OK)
	wantState(t, middle(), 2, 3, third, api.OK)
	wantState(t, newest(), 3, 3, newest(), api.OK)
	wantState(t, oldest(), 3, 3, oldest(), api.OK)
	wantState(t, full(), 3, 3, full(), api.OK)
	// A state of version 1 is one of version 2, too; nothing of it is set then but Rev.
	first := oldest()
	first.Rev = 1
	wantState(t, oldest(), 2, 3, first, api.OK)
}

func TestStateOfFewRows(t *testing.T) {
	empty := api.State{Jobs: []api.Job{}, Nodes: []api.Node{}, Leases: []api.Lease{}}
	for _, s := range []api.State{{}, empty} {
		wantState(t, s, 1, 1, api.State{}, api.OK)
		wantState(t, s, 1, 2, api.State{}, api.OK)
		wantState(t, s, 1, 3, api.State{Rev: 1}, api.OK)
		wantState(t, s, 2, 3, api.State{Rev: 1}, api.OK)
		wantState(t, s, 3, 3, api.State{}, api.OK)
	}
	wantState(t, api.State{Jobs: []api.Job{{Name: "a"}}}, 1, 2, api.State{Jobs: []api.Job{{Name: "a"}}}, api.OK)
	wantState(t, api.State{Nodes: []api.Node{{Name: "n"}}}, 1, 2, api.State{Nodes: []api.Node{{Name: "n", Zone: "-"}}}, api.OK)
}

func TestStateTries(t *testing.T) {
	// Names that are similar to that of the job with the lease.
	names := []string{"B", "a", "aa", "b", "b\x00", "bb", "n", "é"}
	for held := range names {
		s := api.State{Nodes: []api.Node{{Name: "n"}}, Leases: []api.Lease{{Job: names[held], Node: "n"}}}
		for _, name := range names {
			s.Jobs = append(s.Jobs, api.Job{Name: name})
		}
		u, e := State(s, 1, 2)
		if e != api.OK || len(u.Jobs) != len(names) {
			t.Fatalf("State(%+v, 1, 2) = %+v, %d", s, u, e)
		}
		for i, j := range u.Jobs {
			want := 0
			if i == held {
				want = 1
			}
			if j.Tries != want {
				t.Errorf("job %q has Tries %d if %q has a lease", j.Name, j.Tries, names[held])
			}
		}
	}
}

func TestStateFull(t *testing.T) {
	first, second, third := full(), full(), full()
	first.Rev, second.Rev, third.Rev = 0, 0, 1
	for i := range first.Jobs {
		first.Jobs[i].Tries, second.Jobs[i].Tries, third.Jobs[i].Tries = 0, 1, 1
		first.Jobs[i].Tag, second.Jobs[i].Tag, third.Jobs[i].Tag = "", "", ""
	}
	for i := range first.Nodes {
		first.Nodes[i].Zone, second.Nodes[i].Zone, third.Nodes[i].Zone = "", "-", "-"
	}
	wantState(t, first, 1, 2, second, api.OK)
	wantState(t, first, 1, 3, third, api.OK)
	wantState(t, second, 2, 3, third, api.OK)
}

func TestStateVersions(t *testing.T) {
	states := []api.State{{}, oldest(), newest()}
	for _, s := range invalid() {
		states = append(states, s)
	}
	// The versions come before everything else.
	for _, s := range states {
		for _, bad := range badVersions() {
			for good := 1; good <= 3; good++ {
				wantState(t, s, bad, good, api.State{}, api.ErrArg)
				wantState(t, s, good, bad, api.State{}, api.ErrArg)
			}
			wantState(t, s, bad, bad, api.State{}, api.ErrArg)
		}
		for _, down := range [][2]int{{2, 1}, {3, 1}, {3, 2}} {
			wantState(t, s, down[0], down[1], api.State{}, api.ErrArg)
		}
	}
}

func TestStateThatIsNotValid(t *testing.T) {
	for want, s := range invalid() {
		for from := 1; from <= 3; from++ {
			for to := from; to <= 3; to++ {
				wantState(t, s, from, to, api.State{}, want)
			}
		}
	}
}

func TestStateThatDoesNotFit(t *testing.T) {
	for _, c := range []struct {
		name string
		s    api.State
		from int // the first version that it fits
	}{
		{"Rev", api.State{Rev: 1}, 3},
		{"Tag", api.State{Jobs: []api.Job{{Name: "a", Tag: "-"}}}, 3},
		{"Tries", api.State{Jobs: []api.Job{{Name: "a", Tries: 1}}}, 2},
		{"Zone", api.State{Nodes: []api.Node{{Name: "n", Zone: "-"}}}, 2},
		{"middle", middle(), 2}, {"newest", newest(), 3}, {"raised to 2", raised(2), 2}, {"raised to 3", raised(3), 3},
	} {
		for from := 1; from <= 3; from++ {
			for to := from; to <= 3; to++ {
				u, e := State(c.s, from, to)
				if from < c.from && (e != api.ErrForm || !equal(u, api.State{})) {
					t.Errorf("%s: State from %d to %d = %+v, %d", c.name, from, to, u, e)
				}
				if from >= c.from && e != api.OK {
					t.Errorf("%s: State from %d to %d: error %d", c.name, from, to, e)
				}
			}
		}
	}
}

func TestBytesUpgrades(t *testing.T) {
	for _, c := range []struct {
		b        string
		from, to int
		want     string
	}{
		{"\x00\x00\x00", 1, 1, "\x00\x00\x00"},
		{"\x00\x00\x00", 1, 2, "\x00\x00\x00"},
		{"\x00\x00\x00", 1, 3, "\x01\x00\x00\x00"},
		{"\x00\x00\x00", 2, 3, "\x01\x00\x00\x00"},
		{"\x00\x00\x00\x00", 3, 3, "\x00\x00\x00\x00"},
		{"\x05\x00\x00\x00", 3, 3, "\x05\x00\x00\x00"},
		{"\x02\x01a\x09\x00\x01b\x00\x04\x01\x01n\x08\x01\x01b\x01n\x07", 1, 2,
			"\x02\x01a\x09\x00\x00\x01b\x00\x04\x01\x01\x01n\x08\x01-\x01\x01b\x01n\x07"},
		{"\x02\x01a\x09\x00\x01b\x00\x04\x01\x01n\x08\x01\x01b\x01n\x07", 1, 3,
			"\x01\x02\x01a\x09\x00\x00\x00\x01b\x00\x04\x01\x00\x01\x01n\x08\x01-\x01\x01b\x01n\x07"},
		{"\x01\x01a\x00\x00\x64\x01\x01n\x08\x00\x01\x01a\x01n\x07", 2, 3,
			"\x01\x01\x01a\x00\x00\x64\x00\x01\x01n\x08\x00\x01\x01a\x01n\x07"},
	} {
		wantBytes(t, c.b, c.from, c.to, c.want, api.OK)
	}
	for from := 1; from <= 3; from++ {
		for to := from; to <= 3; to++ {
			b, _ := wire.Encode(raised(from), from)
			want, _ := wire.Encode(raised(to), to)
			wantBytes(t, b, from, to, want, api.OK)
		}
	}
}

func TestBytesVersions(t *testing.T) {
	// The versions come before the bytes, whether these are an encoding or not.
	for _, b := range []string{"", "\x00\x00\x00", "\x00\x00\x00\x00", "\xff", "\x29", "\x01\x00\x00\x00\x00\x00"} {
		for _, bad := range badVersions() {
			for good := 1; good <= 3; good++ {
				wantBytes(t, b, bad, good, "", api.ErrArg)
				wantBytes(t, b, good, bad, "", api.ErrArg)
			}
			wantBytes(t, b, bad, bad, "", api.ErrArg)
		}
		for _, down := range [][2]int{{2, 1}, {3, 1}, {3, 2}} {
			wantBytes(t, b, down[0], down[1], "", api.ErrArg)
		}
	}
}

func TestBytesErrors(t *testing.T) {
	for _, c := range []struct {
		b    string
		from int
		want api.Errno
	}{
		{"", 1, api.ErrShort}, {"\x00\x00", 1, api.ErrShort}, {"\x00\x00\x00", 3, api.ErrShort}, {"\x80", 2, api.ErrShort},
		{"\x00\x00\x00\x00", 1, api.ErrForm}, {"\x00\x00\x00x", 2, api.ErrForm}, {"\x00\x00\x00\x00\x00", 3, api.ErrForm},
		{"\x80\x00\x00\x00", 1, api.ErrForm}, {"\x01\x01\xff\x00\x00\x00\x00", 1, api.ErrForm},
		{"\x29", 1, api.ErrLarge}, {"\x00\x15", 2, api.ErrLarge}, {"\x00\x00\x00\x29", 3, api.ErrLarge}, {"\x01\x11", 1, api.ErrLarge},
		{"\x01\x01a\xd1\x0f\x00\x00\x00", 1, api.ErrArg}, {"\x01\x01a\x00\x00\x65\x00\x00", 2, api.ErrArg},
		{"\x81\x80\x80\x80\x80\x20\x00\x00\x00", 3, api.ErrArg},
		{"\x00\x01\x01n\x01\x01\x01a\x01n\x00", 1, api.ErrNone},
		{"\x02\x01a\x00\x00\x01a\x00\x00\x00\x00", 1, api.ErrOrder},
		{"\x01\x01a\x00\x02\x01\x01n\x01\x01\x01a\x01n\x00", 1, api.ErrRoom},
		// Bytes of version 2.
		{"\x01\x01a\x09\x00\x01\x00\x00", 1, api.ErrShort}, {"\x01\x01a\x09\x00\x01\x00\x00", 3, api.ErrLarge},
	} {
		if _, e := wire.Decode(c.b, c.from); e != c.want {
			t.Errorf("wire.Decode(%q, %d) = %d, want %d", c.b, c.from, e, c.want)
		}
		for to := c.from; to <= 3; to++ {
			wantBytes(t, c.b, c.from, to, "", c.want)
		}
	}
}

// P14

func TestDown(t *testing.T) {
	first, second := oldest(), middle()
	wantDown(t, newest(), 3, newest(), true, api.OK)
	wantDown(t, newest(), 2, second, false, api.OK)
	wantDown(t, newest(), 1, first, false, api.OK)
	wantDown(t, middle(), 1, first, false, api.OK)
	for to := 1; to <= 3; to++ {
		// What comes from a version goes back to it, and to those in between.
		wantDown(t, raised(3), to, raised(to), true, api.OK)
	}
	wantDown(t, raised(2), 1, first, false, api.OK) // Rev 0 comes back as 1
}

func TestDownEmpty(t *testing.T) {
	empty := api.State{Jobs: []api.Job{}, Nodes: []api.Node{}, Leases: []api.Lease{}}
	for _, s := range []api.State{{}, empty} {
		for rev := range 4 {
			s.Rev = rev
			wantDown(t, s, 3, s, true, api.OK)
			wantDown(t, s, 2, api.State{}, rev == 1, api.OK)
			wantDown(t, s, 1, api.State{}, rev == 1, api.OK)
		}
	}
}

func TestDownFull(t *testing.T) {
	second := full()
	second.Rev = 0
	for i := range second.Jobs {
		second.Jobs[i].Tag = ""
	}
	first := second
	first.Jobs, first.Nodes = slices.Clone(second.Jobs), slices.Clone(second.Nodes)
	for i := range first.Jobs {
		first.Jobs[i].Tries = 0
	}
	for i := range first.Nodes {
		first.Nodes[i].Zone = ""
	}
	wantDown(t, full(), 3, full(), true, api.OK)
	wantDown(t, full(), 2, second, false, api.OK)
	wantDown(t, full(), 1, first, false, api.OK)
}

// Each change of raised(3) is in a single field; lost is the newest version to which Down loses it, or 0.
func TestDownTellsWhatIsLost(t *testing.T) {
	for _, c := range []struct {
		name string
		turn func(s *api.State)
		lost int
	}{
		{"nothing", func(s *api.State) {}, 0},
		{"Rev 0", func(s *api.State) { s.Rev = 0 }, 2},
		{"Rev 2", func(s *api.State) { s.Rev = 2 }, 2},
		{"Rev 2^40", func(s *api.State) { s.Rev = 1 << 40 }, 2},
		{"the first Tag", func(s *api.State) { s.Jobs[0].Tag = "t" }, 2},
		{"the last Tag", func(s *api.State) { s.Jobs[3].Tag = "-" }, 2},
		{"a job with a lease that was not tried", func(s *api.State) { s.Jobs[1].Tries = 0 }, 1},
		{"a job with a lease that was tried twice", func(s *api.State) { s.Jobs[2].Tries = 2 }, 1},
		{"a job without a lease that was tried", func(s *api.State) { s.Jobs[0].Tries = 1 }, 1},
		{"the last job tried", func(s *api.State) { s.Jobs[3].Tries = 100 }, 1},
		{"a lease less", func(s *api.State) { s.Leases = s.Leases[:1] }, 1},
		{"a lease more", func(s *api.State) { s.Leases = append([]api.Lease{{Job: "a", Node: "m"}}, s.Leases...) }, 1},
		{"another Zone", func(s *api.State) { s.Nodes[0].Zone = "west" }, 1},
		{"a longer Zone", func(s *api.State) { s.Nodes[1].Zone = "--" }, 1},
		{"no Zone", func(s *api.State) { s.Nodes[1].Zone = "" }, 1},
		{"Prio", func(s *api.State) { s.Jobs[0].Prio = 1000 }, 0},
		{"Need", func(s *api.State) { s.Jobs[3].Need = 0 }, 0},
		{"Room", func(s *api.State) { s.Nodes[0].Room = 0 }, 0},
		{"Until", func(s *api.State) { s.Leases[0].Until = 1 << 40 }, 0},
		{"the node of a lease", func(s *api.State) { s.Leases[0].Node = "m" }, 0},
	} {
		for to := 1; to <= 3; to++ {
			s := raised(3)
			c.turn(&s)
			if _, whole, e := Down(s, to); whole != (to > c.lost) || e != api.OK {
				t.Errorf("%s: Down to %d = %t, %d", c.name, to, whole, e)
			}
		}
	}
}

func TestDownErrors(t *testing.T) {
	for _, to := range badVersions() {
		for _, s := range []api.State{{}, oldest(), newest(), raised(3)} {
			wantDown(t, s, to, api.State{}, false, api.ErrArg)
		}
	}
	// What is wrong with the state comes before the version.
	for want, s := range invalid() {
		for _, to := range append(badVersions(), 1, 2, 3) {
			wantDown(t, s, to, api.State{}, false, want)
		}
	}
}

// Rules for all states

// upByRule follows the chapter for a state that fits the version from.
func upByRule(s api.State, from, to int) api.State {
	u := api.State{Rev: s.Rev, Jobs: slices.Clone(s.Jobs), Nodes: slices.Clone(s.Nodes), Leases: s.Leases}
	if from == 1 && to >= 2 {
		held := map[string]int{}
		for _, l := range u.Leases {
			held[l.Job] = 1
		}
		for i := range u.Jobs {
			u.Jobs[i].Tries = held[u.Jobs[i].Name]
		}
		for i := range u.Nodes {
			u.Nodes[i].Zone = "-"
		}
	}
	if from < 3 && to == 3 {
		u.Rev = 1
		for i := range u.Jobs {
			u.Jobs[i].Tag = ""
		}
	}
	return u
}

// downByRule returns the fields of s that a version has.
func downByRule(s api.State, to int) api.State {
	d := api.State{Leases: s.Leases}
	if to == 3 {
		d.Rev = s.Rev
	}
	for _, j := range s.Jobs {
		k := api.Job{Name: j.Name, Prio: j.Prio, Need: j.Need}
		if to >= 2 {
			k.Tries = j.Tries
		}
		if to == 3 {
			k.Tag = j.Tag
		}
		d.Jobs = append(d.Jobs, k)
	}
	for _, n := range s.Nodes {
		o := api.Node{Name: n.Name, Room: n.Room}
		if to >= 2 {
			o.Zone = n.Zone
		}
		d.Nodes = append(d.Nodes, o)
	}
	return d
}

// randomStates holds states that are valid or nearly so; many of them fit an old version or come from one.
func randomStates() []api.State {
	r := rand.New(rand.NewSource(6))
	names := []string{"a", "aa", "b", "c", "é"}
	pick := func(odds int, usual, other string) string {
		if r.Intn(odds) == 0 {
			return other
		}
		return usual
	}
	var all []api.State
	for range 6000 {
		three, two := r.Intn(2), r.Intn(2) // whether there is something that an old version lacks
		s := api.State{Rev: three * (1 + r.Intn(2)*r.Intn(3))}
		for _, name := range names {
			if r.Intn(2) == 0 {
				j := api.Job{Name: name, Prio: r.Intn(2001) - 1000, Need: r.Intn(300)}
				j.Tag = strings.Repeat(pick(6, "", "t"), three)
				s.Jobs = append(s.Jobs, j)
			}
			if r.Intn(3) == 0 {
				s.Nodes = append(s.Nodes, api.Node{Name: name, Room: r.Intn(2000), Zone: strings.Repeat(pick(8, "-", "z"), two)})
			}
		}
		for i, j := range s.Jobs {
			s.Jobs[i].Tries = two * r.Intn(3) * r.Intn(2)
			if len(s.Nodes) > 0 && r.Intn(2) == 0 {
				s.Leases = append(s.Leases, api.Lease{Job: j.Name, Node: s.Nodes[r.Intn(len(s.Nodes))].Name, Until: r.Intn(1000)})
				s.Jobs[i].Tries = two * (1 + r.Intn(3)/2)
			}
		}
		all = append(all, s)
	}
	return all
}

func TestStateByRule(t *testing.T) {
	seen := map[api.Errno]int{}
	for _, s := range randomStates() {
		for from := 0; from <= 4; from++ {
			for to := from; to <= 4; to++ {
				fits, wantErrno := state.Fits(s, from)
				want := api.State{}
				switch {
				case from < 1 || to > 3:
					wantErrno = api.ErrArg
				case fits:
					want = upByRule(s, from, to)
				case wantErrno == api.OK:
					wantErrno = api.ErrForm
				}
				seen[wantErrno]++
				wantState(t, s, from, to, want, wantErrno)
				if wantErrno != api.OK {
					continue
				}
				if ok, e := state.Fits(want, to); !ok || e != api.OK {
					t.Fatalf("%+v does not fit version %d: %d", want, to, e)
				}
				before, _ := wire.Encode(s, from)
				after, _ := wire.Encode(want, to)
				wantBytes(t, before, from, to, after, api.OK)
			}
		}
	}
	for _, e := range []api.Errno{api.OK, api.ErrForm, api.ErrArg, api.ErrRoom} {
		if seen[e] < 100 {
			t.Errorf("only %d states have the result %d", seen[e], e)
		}
	}
}

func TestDownByRule(t *testing.T) {
	seen := map[string]int{}
	for _, s := range randomStates() {
		check := state.Check(s)
		for to := 1; to <= 3; to++ {
			if check != api.OK {
				wantDown(t, s, to, api.State{}, false, check)
				continue
			}
			want := downByRule(s, to)
			whole := equal(upByRule(want, to, 3), s)
			seen[fmt.Sprint(to, whole)]++
			wantDown(t, s, to, want, whole, api.OK)
			if fits, e := state.Fits(want, to); !fits || e != api.OK {
				t.Fatalf("%+v does not fit version %d: %d", want, to, e)
			}
		}
	}
	for _, result := range []string{"1 true", "1 false", "2 true", "2 false", "3 true"} {
		if seen[result] < 100 {
			t.Errorf("only %d states have the result %s", seen[result], result)
		}
	}
}

// No information is lost: the way up by single steps is the way at once, and the way down leads back.
func TestThereAndBack(t *testing.T) {
	for _, s := range randomStates() {
		for from := 1; from <= 3; from++ {
			u, e := State(s, from, 3)
			if e != api.OK {
				continue
			}
			for between := from; between <= 3; between++ {
				m, _ := State(s, from, between)
				wantState(t, m, between, 3, u, api.OK)
				wantDown(t, u, between, m, true, api.OK)
			}
		}
	}
}

// P1

func TestNothingPanics(t *testing.T) {
	defer func() {
		if p := recover(); p != nil {
			t.Error(p)
		}
	}()
	long := strings.Repeat("\xff", 1<<20)
	versions := []int{math.MinInt, -1, 0, 1, 2, 3, 4, math.MaxInt}
	for _, s := range []api.State{
		{}, oldest(), newest(), full(),
		{Rev: math.MinInt}, {Rev: math.MaxInt},
		{Jobs: make([]api.Job, 1<<16)}, {Nodes: make([]api.Node, 1<<16)}, {Leases: make([]api.Lease, 1<<16)},
		{Jobs: []api.Job{{Name: long, Prio: math.MinInt, Need: math.MinInt, Tries: math.MinInt, Tag: long}}},
		{Nodes: []api.Node{{Name: long, Room: math.MinInt, Zone: long}}},
		{Leases: []api.Lease{{Job: long, Node: long, Until: math.MinInt}}},
	} {
		for _, from := range versions {
			Down(s, from)
			for _, to := range versions {
				State(s, from, to)
			}
		}
	}
	for _, b := range []string{"", long, strings.Repeat("\x00", 1<<20), strings.Repeat("\x01", 1<<20), strings.Repeat("\x28", 1<<20)} {
		for _, from := range versions {
			for _, to := range versions {
				Bytes(b, from, to)
			}
		}
	}
}

// P2

// spare returns a copy of rows with unused capacity, which holds its first row.
func spare[T any](rows []T) []T {
	more := slices.Clone(rows)
	for range 5 {
		more = append(more, rows[0])
	}
	return more[:len(rows)]
}

func TestArgumentsAreNotModified(t *testing.T) {
	bad := newest()
	bad.Nodes[1].Room = 2
	for i, s := range []api.State{oldest(), middle(), newest(), raised(3), full(), bad} {
		s.Jobs, s.Nodes, s.Leases = spare(s.Jobs), spare(s.Nodes), spare(s.Leases)
		whole := func() api.State {
			return api.State{Rev: s.Rev, Jobs: s.Jobs[:cap(s.Jobs)], Nodes: s.Nodes[:cap(s.Nodes)], Leases: s.Leases[:cap(s.Leases)]}
		}
		before := whole()
		before.Jobs, before.Nodes, before.Leases = slices.Clone(before.Jobs), slices.Clone(before.Nodes), slices.Clone(before.Leases)
		for from := 0; from <= 4; from++ {
			Down(s, from)
			for to := 0; to <= 4; to++ {
				State(s, from, to)
			}
		}
		if !reflect.DeepEqual(whole(), before) {
			t.Errorf("state %d was modified", i)
		}
	}
}

// scribble overwrites all rows of s, also those in unused capacity.
func scribble(s api.State) {
	for i := range s.Jobs[:cap(s.Jobs)] {
		s.Jobs[:cap(s.Jobs)][i] = api.Job{Name: "?", Tries: -1}
	}
	for i := range s.Nodes[:cap(s.Nodes)] {
		s.Nodes[:cap(s.Nodes)][i] = api.Node{Name: "?", Room: -1}
	}
	for i := range s.Leases[:cap(s.Leases)] {
		s.Leases[:cap(s.Leases)][i] = api.Lease{Job: "?", Until: -1}
	}
}

func TestResultsMayBeOverwritten(t *testing.T) {
	for version := 1; version <= 3; version++ {
		for to := version; to <= 3; to++ {
			s := raised(version)
			u, _ := State(s, version, to)
			scribble(u)
			if !equal(s, raised(version)) {
				t.Errorf("the result of State from %d to %d shares memory with its argument", version, to)
			}
			wantState(t, s, version, to, raised(to), api.OK)
		}
		s := newest()
		d, _, _ := Down(s, version)
		scribble(d)
		if !equal(s, newest()) {
			t.Errorf("the result of Down to %d shares memory with its argument", version)
		}
	}
}

func TestResultsDependOnArgumentsOnly(t *testing.T) {
	type result struct {
		up, down api.State
		whole    bool
		bytes    string
		errors   [3]api.Errno
	}
	run := func(i int, s api.State) (r result) {
		from, to := 1+i%3, 1+i/3%3
		r.up, r.errors[0] = State(s, from, to)
		r.down, r.whole, r.errors[1] = Down(s, to)
		b, _ := wire.Encode(s, from)
		r.bytes, r.errors[2] = Bytes(b, from, to)
		return r
	}
	all := randomStates()
	first := make([]result, len(all))
	for i, s := range all {
		first[i] = run(i, s)
	}
	for i := len(all) - 1; i >= 0; i-- {
		if again := run(i, all[i]); !reflect.DeepEqual(again, first[i]) {
			t.Errorf("state %d: first %+v, then %+v", i, first[i], again)
		}
	}
}

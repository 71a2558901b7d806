package wire

import (
	"fmt"
	"math"
	"math/rand"
	"reflect"
	"slices"
	"strings"
	"testing"

	"bracken/api"
	"bracken/frame"
	"bracken/prim"
	"bracken/state"
)

// sample returns a state that only version 3 can hold.
func sample() api.State {
	return api.State{
		Rev: 300,
		Jobs: []api.Job{
			{Name: "a", Prio: -5, Need: 3, Tries: 1, Tag: "red"},
			{Name: "bb", Need: 4},
			{Name: "é", Prio: 1000, Need: 1000000, Tries: 100},
		},
		Nodes: []api.Node{
			{Name: "m", Room: 8, Zone: "west"},
			{Name: "n", Room: 200},
		},
		Leases: []api.Lease{
			{Job: "a", Node: "m", Until: 128},
			{Job: "bb", Node: "n"},
		},
	}
}

// lower returns sample without the fields that a version does not have.
func lower(version int) api.State {
	s := sample()
	if version < 3 {
		s.Rev, s.Jobs[0].Tag = 0, ""
	}
	if version < 2 {
		s.Jobs[0].Tries, s.Jobs[2].Tries, s.Nodes[0].Zone = 0, 0, ""
	}
	return s
}

// written holds, for every version, the bytes of lower.
var written = map[int]string{
	1: "\x03" + "\x01a\x09\x03" + "\x02bb\x00\x04" + "\x02é\xd0\x0f\xc0\x84\x3d" +
		"\x02" + "\x01m\x08" + "\x01n\xc8\x01" +
		"\x02" + "\x01a\x01m\x80\x01" + "\x02bb\x01n\x00",
	2: "\x03" + "\x01a\x09\x03\x01" + "\x02bb\x00\x04\x00" + "\x02é\xd0\x0f\xc0\x84\x3d\x64" +
		"\x02" + "\x01m\x08\x04west" + "\x01n\xc8\x01\x00" +
		"\x02" + "\x01a\x01m\x80\x01" + "\x02bb\x01n\x00",
	3: "\xac\x02" +
		"\x03" + "\x01a\x09\x03\x01\x03red" + "\x02bb\x00\x04\x00\x00" + "\x02é\xd0\x0f\xc0\x84\x3d\x64\x00" +
		"\x02" + "\x01m\x08\x04west" + "\x01n\xc8\x01\x00" +
		"\x02" + "\x01a\x01m\x80\x01" + "\x02bb\x01n\x00",
}

// full returns a state with as many rows as there may be, and with the largest numbers and texts that a version has.
func full(version int) api.State {
	s := api.State{}
	for i := range api.MaxJobs {
		name := fmt.Sprintf("job-%012d", i)
		s.Jobs = append(s.Jobs, api.Job{Name: name, Prio: -1000, Need: 500000})
		s.Leases = append(s.Leases, api.Lease{Job: name, Node: fmt.Sprintf("node%012d", i/2), Until: 1 << 40})
	}
	for i := range api.MaxNodes {
		s.Nodes = append(s.Nodes, api.Node{Name: fmt.Sprintf("node%012d", i), Room: 1000000})
	}
	if version >= 2 {
		for i := range s.Jobs {
			s.Jobs[i].Tries = 100
		}
		for i := range s.Nodes {
			s.Nodes[i].Zone = strings.Repeat("z", 16)
		}
	}
	if version >= 3 {
		s.Rev = 1 << 40
		for i := range s.Jobs {
			s.Jobs[i].Tag = strings.Repeat("t", 16)
		}
	}
	return s
}

// same reports whether two states are equal; a nil slice equals an empty one.
func same(a, b api.State) bool {
	return a.Rev == b.Rev && slices.Equal(a.Jobs, b.Jobs) && slices.Equal(a.Nodes, b.Nodes) && slices.Equal(a.Leases, b.Leases)
}

// wantDecode checks the result of Decode; with an error, the state must be zero.
func wantDecode(t *testing.T, b string, version int, want api.State, wantErrno api.Errno) {
	t.Helper()
	if s, e := Decode(b, version); !same(s, want) || e != wantErrno {
		t.Errorf("Decode(%q, %d) = %+v, %d, want %+v, %d", b, version, s, e, want, wantErrno)
	}
}

// wantError checks that Decode returns an error and nothing else.
func wantError(t *testing.T, b string, version int, want api.Errno) {
	t.Helper()
	wantDecode(t, b, version, api.State{}, want)
}

// num is short for prim.Number.
func num(n uint64) string { return prim.Number(n) }

// P11

func TestEncode(t *testing.T) {
	for version, want := range written {
		if b, e := Encode(lower(version), version); b != want || e != api.OK {
			t.Errorf("Encode in version %d = %q, %d, want %q", version, b, e, want)
		}
	}
}

func TestEncodeEmpty(t *testing.T) {
	for version, want := range map[int]string{1: "\x00\x00\x00", 2: "\x00\x00\x00", 3: "\x00\x00\x00\x00"} {
		for _, s := range []api.State{{}, {Jobs: []api.Job{}, Nodes: []api.Node{}, Leases: []api.Lease{}}} {
			if b, e := Encode(s, version); b != want || e != api.OK {
				t.Errorf("Encode of the empty state in version %d = %q, %d", version, b, e)
			}
		}
	}
}

func TestEncodeFields(t *testing.T) {
	for _, c := range []struct {
		s       api.State
		version int
		want    string
	}{
		{api.State{Rev: 1 << 40}, 3, "\x80\x80\x80\x80\x80\x20\x00\x00\x00"},
		{api.State{Jobs: []api.Job{{Name: "j", Prio: 1}}}, 1, "\x01\x01j\x02\x00\x00\x00"},
		{api.State{Jobs: []api.Job{{Name: "j", Prio: -1}}}, 1, "\x01\x01j\x01\x00\x00\x00"},
		{api.State{Jobs: []api.Job{{Name: "j", Prio: -1000}}}, 1, "\x01\x01j\xcf\x0f\x00\x00\x00"},
		{api.State{Jobs: []api.Job{{Name: "j", Tries: 7}}}, 2, "\x01\x01j\x00\x00\x07\x00\x00"},
		{api.State{Jobs: []api.Job{{Name: "j", Tries: 7, Tag: "\x00"}}}, 3, "\x00\x01\x01j\x00\x00\x07\x01\x00\x00\x00"},
		{api.State{Jobs: []api.Job{{Name: strings.Repeat("é", 8)}}}, 1, "\x01\x10" + strings.Repeat("é", 8) + "\x00\x00\x00\x00"},
		{api.State{Nodes: []api.Node{{Name: "n", Room: 1}}}, 1, "\x00\x01\x01n\x01\x00"},
		{api.State{Nodes: []api.Node{{Name: "n", Room: 1}}}, 2, "\x00\x01\x01n\x01\x00\x00"},
		{api.State{Nodes: []api.Node{{Name: "n", Room: 1, Zone: "z"}}}, 2, "\x00\x01\x01n\x01\x01z\x00"},
		{api.State{Nodes: []api.Node{{Name: "n", Room: 1, Zone: "z"}}}, 3, "\x00\x00\x01\x01n\x01\x01z\x00"},
		{api.State{Jobs: []api.Job{{Name: "x"}}, Nodes: []api.Node{{Name: "x"}}, Leases: []api.Lease{{Job: "x", Node: "x", Until: 1 << 40}}}, 1,
			"\x01\x01x\x00\x00\x01\x01x\x00\x01\x01x\x01x\x80\x80\x80\x80\x80\x20"},
	} {
		if b, e := Encode(c.s, c.version); b != c.want || e != api.OK {
			t.Errorf("Encode(%+v, %d) = %q, %d, want %q", c.s, c.version, b, e, c.want)
		}
		wantDecode(t, c.want, c.version, c.s, api.OK)
	}
}

func TestEncodeErrors(t *testing.T) {
	room := sample()
	room.Nodes[0].Room = 2
	form := sample()
	form.Jobs[0].Tag = strings.Repeat("x", 17)
	order := lower(1)
	order.Jobs[1].Name = "a"
	large := api.State{Rev: 1, Nodes: make([]api.Node, 21)}
	for _, c := range []struct {
		s       api.State
		version int
		want    api.Errno
	}{
		{sample(), 1, api.ErrForm}, {sample(), 2, api.ErrForm}, {lower(2), 1, api.ErrForm},
		{api.State{Rev: 1}, 1, api.ErrForm}, {api.State{Rev: 1}, 2, api.ErrForm},
		{api.State{Jobs: []api.Job{{Name: "a", Tag: "t"}}}, 2, api.ErrForm},
		{api.State{Jobs: []api.Job{{Name: "a", Tries: 1}}}, 1, api.ErrForm},
		{api.State{Nodes: []api.Node{{Name: "a", Zone: "z"}}}, 1, api.ErrForm},
		// Without a version nothing fits, but the version is the first error.
		{sample(), 0, api.ErrArg}, {sample(), 4, api.ErrArg}, {sample(), -1, api.ErrArg}, {api.State{}, 0, api.ErrArg},
		{api.State{}, math.MinInt, api.ErrArg}, {api.State{}, math.MaxInt, api.ErrArg}, {api.State{}, 257, api.ErrArg},
		// What is wrong with the state comes before the version, and before what does not fit.
		{room, 0, api.ErrRoom}, {room, 1, api.ErrRoom}, {room, 3, api.ErrRoom},
		{form, 3, api.ErrForm}, {order, 1, api.ErrOrder}, {order, 4, api.ErrOrder},
		{large, 1, api.ErrLarge}, {large, 9, api.ErrLarge},
		{api.State{Rev: -1}, 1, api.ErrArg}, {api.State{Rev: 1<<40 + 1}, 3, api.ErrArg},
		{api.State{Leases: []api.Lease{{Job: "a", Node: "n"}}}, 3, api.ErrNone},
	} {
		if b, e := Encode(c.s, c.version); b != "" || e != c.want {
			t.Errorf("Encode(%+v, %d) = %q, %d, want %d", c.s, c.version, b, e, c.want)
		}
		if b, e := Frame(c.s, c.version); b != "" || e != c.want {
			t.Errorf("Frame(%+v, %d) = %q, %d, want %d", c.s, c.version, b, e, c.want)
		}
	}
}

// P12

func TestDecode(t *testing.T) {
	for version, b := range written {
		wantDecode(t, b, version, lower(version), api.OK)
	}
	wantDecode(t, "\x00\x00\x00", 1, api.State{}, api.OK)
	wantDecode(t, "\x00\x00\x00", 2, api.State{}, api.OK)
	wantDecode(t, "\x00\x00\x00\x00", 3, api.State{}, api.OK)
	wantDecode(t, "\x05\x00\x00\x00", 3, api.State{Rev: 5}, api.OK)
}

func TestDecodeFull(t *testing.T) {
	for version := 1; version <= 3; version++ {
		s := full(version)
		b, e := Encode(s, version)
		if e != api.OK {
			t.Errorf("Encode of the full state in version %d: error %d", version, e)
		}
		wantDecode(t, b, version, s, api.OK)
	}
}

func TestDecodeVersion(t *testing.T) {
	for _, version := range []int{0, -1, 4, 257, -255, math.MinInt, math.MaxInt} {
		for _, b := range []string{"", "\x00\x00\x00", "\x00\x00\x00\x00", "\xff", "\x29", written[3]} {
			wantError(t, b, version, api.ErrArg)
		}
	}
}

// Every part of an encoding is too short, and every byte behind it is too many: encodings are prefix-free.
func TestDecodePrefixes(t *testing.T) {
	for version := 1; version <= 3; version++ {
		most, _ := Encode(full(version), version)
		empty, _ := Encode(api.State{}, version)
		for _, b := range []string{written[version], most, empty} {
			for end := range len(b) {
				wantError(t, b[:end], version, api.ErrShort)
			}
			for _, more := range []string{"\x00", "x", "\xff", "\x80\x80", b} {
				wantError(t, b+more, version, api.ErrForm)
			}
		}
	}
}

func TestDecodeOtherVersion(t *testing.T) {
	// The empty state of version 3 has a byte too many for the others, and theirs one too few.
	wantError(t, "\x00\x00\x00\x00", 1, api.ErrForm)
	wantError(t, "\x00\x00\x00\x00", 2, api.ErrForm)
	wantError(t, "\x00\x00\x00", 3, api.ErrShort)
}

func TestDecodeNumberOfRows(t *testing.T) {
	for _, c := range []struct {
		before string
		limit  uint64
	}{
		{"", 40}, {"\x00", 20}, {"\x00\x00", 40},
	} {
		for version := 1; version <= 3; version++ {
			before := c.before
			if version == 3 {
				before = "\x00" + before
			}
			wantError(t, before+num(c.limit), version, api.ErrShort)
			for _, n := range []uint64{c.limit + 1, 127, 128, 1 << 32, 1<<32 + 1, 1 << 62, 1<<62 + 1, 1 << 63, math.MaxUint64} {
				wantError(t, before+num(n), version, api.ErrLarge)
				wantError(t, before+num(n)+"\xff", version, api.ErrLarge)
			}
		}
	}
	// As many rows as there may be, but all alike.
	for i, b := range []string{
		"\x28" + strings.Repeat("\x01a\x00\x00", 40) + "\x00\x00",
		"\x00\x14" + strings.Repeat("\x01a\x00", 20) + "\x00",
		"\x01\x01a\x00\x00\x01\x01n\x00\x28" + strings.Repeat("\x01a\x01n\x00", 40),
	} {
		if _, e := Decode(b, 1); e != api.ErrOrder {
			t.Errorf("encoding %d: Decode = %d", i, e)
		}
	}
}

// numberField is a place for a number in an encoding of version 3.
type numberField struct {
	name          string
	before, after string
	most          uint64 // the largest valid one
}

// numberFields holds all the numbers that are neither lengths nor numbers of rows.
func numberFields() []numberField {
	return []numberField{
		{"Rev", "", "\x00\x00\x00", 1 << 40},
		{"Prio", "\x00\x01\x01a", "\x00\x00\x00\x00\x00", 2000},
		{"Need", "\x00\x01\x01a\x00", "\x00\x00\x00\x00", 1000000},
		{"Tries", "\x00\x01\x01a\x00\x00", "\x00\x00\x00", 100},
		{"Room", "\x00\x00\x01\x01n", "\x00\x00", 1000000},
		{"Until", "\x00\x01\x01a\x00\x00\x00\x00\x01\x01n\x00\x00\x01\x01a\x01n", "", 1 << 40},
	}
}

func TestDecodeNumbers(t *testing.T) {
	for _, f := range numberFields() {
		for _, n := range []uint64{0, 1, f.most - 1, f.most} {
			if _, e := Decode(f.before+num(n)+f.after, 3); e != api.OK {
				t.Errorf("%s with the number %d: Decode = %d", f.name, n, e)
			}
		}
		for _, n := range []uint64{f.most + 1, f.most + 2, 1 << 50, 1<<62 - 1, 1 << 62} {
			wantError(t, f.before+num(n)+f.after, 3, api.ErrArg)
			// Bytes that remain are found before the state is checked.
			wantError(t, f.before+num(n)+f.after+"\x00", 3, api.ErrForm)
		}
		for _, n := range []uint64{1<<62 + 1, 1<<62 + 2, 1 << 63, math.MaxUint64} {
			wantError(t, f.before+num(n)+f.after, 3, api.ErrLarge)
			wantError(t, f.before+num(n)+f.after+"\x00", 3, api.ErrLarge)
			wantError(t, f.before+num(n), 3, api.ErrLarge)
		}
		wantError(t, f.before, 3, api.ErrShort)
		wantError(t, f.before+"\x80", 3, api.ErrShort)
		wantError(t, f.before+"\x80\x00"+f.after, 3, api.ErrForm)
		wantError(t, f.before+strings.Repeat("\xff", 10)+f.after, 3, api.ErrForm)
	}
	for n, prio := range map[uint64]int{0: 0, 1: -1, 2: 1, 1999: -1000, 2000: 1000} {
		b := "\x01\x01a" + num(n) + "\x00\x00\x00"
		wantDecode(t, b, 1, api.State{Jobs: []api.Job{{Name: "a", Prio: prio}}}, api.OK)
	}
	wantError(t, "\x01\x01a"+num(2001)+"\x00\x00\x00", 1, api.ErrArg)
}

func TestDecodeTexts(t *testing.T) {
	lease := "\x00\x01\x01a\x00\x00\x00\x00\x01\x01n\x00\x00\x01"
	long := strings.Repeat("x", 16)
	for _, c := range []struct {
		name, before, after string
		empty, other        api.Errno // what Decode returns for no text, and for a text that is not there
	}{
		{"a job", "\x00\x01", "\x00\x00\x00\x00\x00\x00", api.ErrForm, api.OK},
		{"Tag", "\x00\x01\x01a\x00\x00\x00", "\x00\x00", api.OK, api.OK},
		{"a node", "\x00\x00\x01", "\x00\x00\x00", api.ErrForm, api.OK},
		{"Zone", "\x00\x00\x01\x01n\x00", "\x00", api.OK, api.OK},
		{"Job", lease, "\x01n\x00", api.ErrNone, api.ErrNone},
		{"Node", lease + "\x01a", "\x00", api.ErrNone, api.ErrNone},
	} {
		for b, want := range map[string]api.Errno{
			"\x00":         c.empty,
			"\x01x":        c.other,
			"\x02é":        c.other,
			"\x10" + long:  c.other,
			"\x11" + long:  api.ErrLarge,
			"\x02\xc3x":    api.ErrForm,
			"\x81\x00x":    api.ErrForm,
			"\xff\xff\x03": api.ErrLarge,
			num(1 << 62):   api.ErrLarge,
		} {
			if _, e := Decode(c.before+b+c.after, 3); e != want {
				t.Errorf("%s as %q: Decode = %d, want %d", c.name, b, e, want)
			}
		}
		wantError(t, c.before, 3, api.ErrShort)
		wantError(t, c.before+"\x10"+long[1:], 3, api.ErrShort)
		wantError(t, c.before+"\x01\xff", 3, api.ErrForm)
	}
}

// Each encoding has two errors; the one that comes first in it counts, and that of the state comes last.
func TestDecodeFirstError(t *testing.T) {
	for _, c := range []struct {
		name, b string
		want    api.Errno
	}{
		{"large before short", "\x29", api.ErrLarge},
		{"a text before the number of nodes", "\x01\x01\xff\x00\x00\x15", api.ErrForm},
		{"the number of jobs before a text", "\x29\x01\xff", api.ErrLarge},
		{"a large number before a text", "\x02\x01a" + num(1<<62+1) + "\x00\x01\xff", api.ErrLarge},
		{"a text before a large number", "\x02\x01\xff" + num(1<<62+1) + "\x00\x01a", api.ErrForm},
		{"a large text before a large number", "\x01\x11" + num(1<<62+1), api.ErrLarge},
		{"a short number before its size", "\x01\x01a" + num(1 << 63)[:9], api.ErrShort},
		{"form of a number before its size", "\x01\x01a" + num(math.MaxUint64)[:9] + "\x02", api.ErrForm},
		{"short before the state", "\x01\x00\x00\x00\x00", api.ErrShort},
		{"what remains before the state", "\x01\x00\x00\x00\x00\x00\x00", api.ErrForm},
		{"what remains before the order", "\x02\x01a\x00\x00\x01a\x00\x00\x00\x00x", api.ErrForm},
		{"a large number of leases before the order", "\x02\x01a\x00\x00\x01a\x00\x00\x00\x29", api.ErrLarge},
		{"the order", "\x02\x01a\x00\x00\x01a\x00\x00\x00\x00", api.ErrOrder},
		{"no room", "\x01\x01a\x00\x02\x01\x01n\x01\x01\x01a\x01n\x00", api.ErrRoom},
		{"no job", "\x00\x01\x01n\x01\x01\x01a\x01n\x00", api.ErrNone},
	} {
		if s, e := Decode(c.b, 1); !same(s, api.State{}) || e != c.want {
			t.Errorf("%s: Decode(%q) = %+v, %d, want %d", c.name, c.b, s, e, c.want)
		}
	}
}

func TestFrame(t *testing.T) {
	for version, payload := range written {
		s, e := Frame(lower(version), version)
		f, n, frameError := frame.Decode(s)
		want := api.Frame{Version: version, Kind: api.KState, Payload: payload}
		if e != api.OK || f != want || n != len(s) || frameError != api.OK {
			t.Errorf("Frame in version %d = %q, %d, which is the frame %+v", version, s, e, f)
		}
		// Even the largest state fits into a frame.
		if s, e := Frame(full(version), version); len(s) < 1000 || e != api.OK {
			t.Errorf("Frame of the full state in version %d has %d bytes, error %d", version, len(s), e)
		}
	}
	if s, e := Frame(api.State{}, 2); len(s) != 12 || s[:8] != "BK\x02\x01\x03\x00\x00\x00" || e != api.OK {
		t.Errorf("Frame of the empty state = %q, %d", s, e)
	}
}

// encodeByRule follows the chapter for a state that fits.
func encodeByRule(s api.State, version int) string {
	var b []byte
	number := func(n uint64) {
		for ; n > 127; n /= 128 {
			b = append(b, byte(n%128+128))
		}
		b = append(b, byte(n))
	}
	text := func(s string) {
		number(uint64(len(s)))
		b = append(b, s...)
	}
	if version == 3 {
		number(uint64(s.Rev))
	}
	number(uint64(len(s.Jobs)))
	for _, j := range s.Jobs {
		text(j.Name)
		if j.Prio < 0 {
			number(uint64(-2*j.Prio - 1))
		} else {
			number(uint64(2 * j.Prio))
		}
		number(uint64(j.Need))
		if version > 1 {
			number(uint64(j.Tries))
		}
		if version == 3 {
			text(j.Tag)
		}
	}
	number(uint64(len(s.Nodes)))
	for _, n := range s.Nodes {
		text(n.Name)
		number(uint64(n.Room))
		if version > 1 {
			text(n.Zone)
		}
	}
	number(uint64(len(s.Leases)))
	for _, l := range s.Leases {
		text(l.Job)
		text(l.Node)
		number(uint64(l.Until))
	}
	return string(b)
}

// decodeByRule follows the chapter sentence by sentence; an error ends it by a panic.
func decodeByRule(b string, version int) (s api.State, e api.Errno) {
	defer func() {
		if p := recover(); p != nil {
			s, e = api.State{}, p.(api.Errno)
		}
	}()
	must := func(e api.Errno) {
		if e != api.OK {
			panic(e)
		}
	}
	number := func(most uint64) uint64 {
		n, size, e := prim.ReadNumber(b)
		must(e)
		if n > most {
			must(api.ErrLarge)
		}
		b = b[size:]
		return n
	}
	text := func() string {
		t, size, e := prim.ReadText(b)
		must(e)
		b = b[size:]
		return t
	}
	if version < 1 || version > 3 {
		must(api.ErrArg)
	}
	if version == 3 {
		s.Rev = int(number(1 << 62))
	}
	for range number(40) {
		j := api.Job{Name: text()}
		j.Prio = int(prim.Zag(number(1 << 62)))
		j.Need = int(number(1 << 62))
		if version > 1 {
			j.Tries = int(number(1 << 62))
		}
		if version == 3 {
			j.Tag = text()
		}
		s.Jobs = append(s.Jobs, j)
	}
	for range number(20) {
		n := api.Node{Name: text()}
		n.Room = int(number(1 << 62))
		if version > 1 {
			n.Zone = text()
		}
		s.Nodes = append(s.Nodes, n)
	}
	for range number(40) {
		l := api.Lease{Job: text()}
		l.Node = text()
		l.Until = int(number(1 << 62))
		s.Leases = append(s.Leases, l)
	}
	if b != "" {
		must(api.ErrForm)
	}
	must(state.Check(s))
	return s, api.OK
}

// randomStates holds states that are valid or nearly so, and that often fit an old version.
func randomStates() []api.State {
	r := rand.New(rand.NewSource(5))
	names := []string{"a", "aa", "b", "c", "d", "node-1", "z", "é", "\U0010ffff"}
	odd := func(n, other int) int {
		if r.Intn(100) == 0 {
			return other
		}
		return n
	}
	var all []api.State
	for range 4000 {
		three, two := r.Intn(2), r.Intn(2) // whether there is something that an old version lacks
		s := api.State{Rev: three * r.Intn(1<<40)}
		for _, name := range names {
			if r.Intn(2) == 0 {
				j := api.Job{Name: name, Prio: odd(r.Intn(2001)-1000, 1001), Need: r.Intn(300), Tries: two * r.Intn(101)}
				j.Tag = strings.Repeat("t", three*r.Intn(17))
				s.Jobs = append(s.Jobs, j)
			}
			if r.Intn(3) == 0 {
				s.Nodes = append(s.Nodes, api.Node{Name: name, Room: 1000 + r.Intn(999001), Zone: strings.Repeat("é", two*r.Intn(9))})
			}
		}
		for _, j := range s.Jobs {
			if len(s.Nodes) > 0 && r.Intn(2) == 0 {
				s.Leases = append(s.Leases, api.Lease{Job: j.Name, Node: s.Nodes[r.Intn(len(s.Nodes))].Name, Until: odd(r.Intn(1<<r.Intn(41)), -1)})
			}
		}
		all = append(all, s)
	}
	return all
}

func TestEncodeByRule(t *testing.T) {
	seen := map[api.Errno]int{}
	for _, s := range randomStates() {
		for version := 0; version <= 4; version++ {
			fits, wantErrno := state.Fits(s, version)
			want := ""
			if fits {
				want = encodeByRule(s, version)
			} else if wantErrno == api.OK {
				wantErrno = api.ErrForm
			}
			seen[wantErrno]++
			b, e := Encode(s, version)
			if b != want || e != wantErrno {
				t.Fatalf("Encode(%+v, %d) = %q, %d, want %q, %d", s, version, b, e, want, wantErrno)
			}
			if e == api.OK {
				wantDecode(t, b, version, s, api.OK)
			}
		}
	}
	for _, e := range []api.Errno{api.OK, api.ErrForm, api.ErrArg} {
		if seen[e] < 100 {
			t.Errorf("only %d states have the result %d", seen[e], e)
		}
	}
}

// damaged returns b with a change somewhere.
func damaged(b string, r *rand.Rand) string {
	at := r.Intn(len(b))
	bytes := []string{"\x00", "\x01", "\x02", "\x10", "\x11", "\x28", "\x29", "\x7f", "\x80", "\xff", "a", "z", num(1 << 62), num(1<<62 + 1)}
	other := bytes[r.Intn(len(bytes))]
	switch r.Intn(5) {
	case 0:
		return b[:at]
	case 1:
		return b[:at] + other + b[at:]
	case 2:
		return b[:at] + b[at+1:]
	case 3:
		return b[:at] + string([]byte{b[at] + byte(r.Intn(5)) - 2}) + b[at+1:]
	}
	return b[:at] + other + b[at+1:]
}

// inputs holds encodings, most of them damaged.
func inputs() []string {
	r := rand.New(rand.NewSource(7))
	var all []string
	for _, s := range randomStates() {
		version := 1 + r.Intn(3)
		b := encodeByRule(lower(version), version)
		if fits, _ := state.Fits(s, version); fits {
			b = encodeByRule(s, version)
		}
		all = append(all, b, damaged(b, r), damaged(damaged(b, r)+"\x00", r))
	}
	for range 4000 {
		b := make([]byte, r.Intn(12))
		for i := range b {
			b[i] = byte(r.Intn(5))
			if r.Intn(4) == 0 {
				b[i] = byte(r.Intn(256))
			}
		}
		all = append(all, string(b))
	}
	return all
}

func TestDecodeByRule(t *testing.T) {
	seen := map[api.Errno]int{}
	for _, b := range inputs() {
		for version := 0; version <= 4; version++ {
			want, wantErrno := decodeByRule(b, version)
			seen[wantErrno]++
			s, e := Decode(b, version)
			if !same(s, want) || e != wantErrno {
				t.Fatalf("Decode(%q, %d) = %+v, %d, want %+v, %d", b, version, s, e, want, wantErrno)
			}
			if e != api.OK {
				continue
			}
			// What can be decoded is the only encoding of its state.
			if again, e := Encode(s, version); again != b || e != api.OK {
				t.Fatalf("Encode(%+v, %d) = %q, %d, want %q", s, version, again, e, b)
			}
		}
	}
	for _, e := range []api.Errno{api.OK, api.ErrArg, api.ErrLarge, api.ErrShort, api.ErrForm, api.ErrNone, api.ErrOrder} {
		if seen[e] < 20 {
			t.Errorf("only %d encodings have the result %d", seen[e], e)
		}
	}
}

// P1

func TestNothingPanics(t *testing.T) {
	defer func() {
		if p := recover(); p != nil {
			t.Error(p)
		}
	}()
	long := strings.Repeat("\xff", 1<<20)
	versions := []int{math.MinInt, -1, 0, 1, 2, 3, 4, math.MaxInt}
	for _, s := range []api.State{
		{}, sample(), full(3),
		{Rev: math.MinInt}, {Rev: math.MaxInt},
		{Jobs: make([]api.Job, 1<<16)}, {Nodes: make([]api.Node, 1<<16)}, {Leases: make([]api.Lease, 1<<16)},
		{Jobs: []api.Job{{Name: long, Prio: math.MinInt, Need: math.MinInt, Tries: math.MinInt, Tag: long}}},
		{Nodes: []api.Node{{Name: long, Room: math.MinInt, Zone: long}}},
		{Leases: []api.Lease{{Job: long, Node: long, Until: math.MinInt}}},
	} {
		for _, version := range versions {
			Encode(s, version)
			Frame(s, version)
		}
	}
	for first := range 256 {
		for second := range 256 {
			b := string([]byte{byte(first), byte(second)})
			for _, version := range versions {
				Decode(b, version)
				Decode(b+"\x01\x01a", version)
			}
		}
	}
	for _, b := range []string{"", long, strings.Repeat("\x00", 1<<20), strings.Repeat("\x01", 1<<20), strings.Repeat("\x28", 1<<20)} {
		for _, version := range versions {
			Decode(b, version)
		}
	}
}

// P2

// spare returns a copy of rows with unused capacity, which holds its first row.
func spare[T any](rows []T) []T {
	more := slices.Clone(rows)
	for range 5 {
		more = append(more, rows[0])
	}
	return more[:len(rows)]
}

func TestArgumentsAreNotModified(t *testing.T) {
	bad := sample()
	bad.Nodes[0].Room = 2
	for _, s := range []api.State{sample(), lower(1), full(2), bad} {
		s.Jobs, s.Nodes, s.Leases = spare(s.Jobs), spare(s.Nodes), spare(s.Leases)
		whole := func() api.State {
			return api.State{Rev: s.Rev, Jobs: s.Jobs[:cap(s.Jobs)], Nodes: s.Nodes[:cap(s.Nodes)], Leases: s.Leases[:cap(s.Leases)]}
		}
		before := whole()
		before.Jobs, before.Nodes, before.Leases = slices.Clone(before.Jobs), slices.Clone(before.Nodes), slices.Clone(before.Leases)
		for version := 0; version <= 4; version++ {
			Encode(s, version)
			Frame(s, version)
		}
		if !reflect.DeepEqual(whole(), before) {
			t.Errorf("a state of %d jobs was modified", len(s.Jobs))
		}
	}
}

func TestResultsDependOnArgumentsOnly(t *testing.T) {
	type result struct {
		s              api.State
		encoded, frame string
		errors         [3]api.Errno
	}
	run := func(b string, version int) (r result) {
		r.s, r.errors[0] = Decode(b, version)
		r.encoded, r.errors[1] = Encode(r.s, version)
		r.frame, r.errors[2] = Frame(r.s, version)
		return r
	}
	all := inputs()
	first := make([]result, len(all))
	for i, b := range all {
		first[i] = run(b, i%5)
	}
	for i := len(all) - 1; i >= 0; i-- {
		if again := run(all[i], i%5); !reflect.DeepEqual(again, first[i]) {
			t.Errorf("input %d: first %+v, then %+v", i, first[i], again)
		}
	}
}

package req

import (
	"fmt"
	"maps"
	"math"
	"math/rand"
	"slices"
	"strings"
	"testing"
	"unicode/utf8"

	"bracken/api"
	"bracken/prim"
	"bracken/state"
)

// encodings holds a request of every kind, with all of its fields, by its encoding.
func encodings() map[string]api.Request {
	return map[string]api.Request{
		"\x01\x01j\x09\x80\x01\x02\x03red": {Kind: 1, Job: api.Job{Name: "j", Prio: -5, Need: 128, Tries: 2, Tag: "red"}},
		"\x02\x01n\xc8\x01\x04west":        {Kind: 2, Node: api.Node{Name: "n", Room: 200, Zone: "west"}},
		"\x03\x02é":                        {Kind: 3, Name: "é"},
		"\x04\x03abc":                      {Kind: 4, Name: "abc"},
		"\x05\x01a\x02nn\xac\x02":          {Kind: 5, Lease: api.Lease{Job: "a", Node: "nn", Until: 300}},
		"\x06\x01a":                        {Kind: 6, Name: "a"},
		"\x07\xac\x02":                     {Kind: 7, N: 300},
		"\x08":                             {Kind: 8},
		"\x09":                             {Kind: 9},
	}
}

// sample returns a request of a kind with all of its fields.
func sample(kind int) api.Request {
	for _, r := range encodings() {
		if r.Kind == kind {
			return r
		}
	}
	panic("no such kind")
}

// limits returns valid requests with the smallest and the largest values.
func limits() []api.Request {
	long := strings.Repeat("x", 16)
	wide := strings.Repeat("é", 8)
	return []api.Request{
		{Kind: 1, Job: api.Job{Name: "\x00"}},
		{Kind: 1, Job: api.Job{Name: "j", Prio: -1000}},
		{Kind: 1, Job: api.Job{Name: long, Prio: 1000, Need: 1000000, Tries: 100, Tag: wide}},
		{Kind: 2, Node: api.Node{Name: "n"}},
		{Kind: 2, Node: api.Node{Name: wide, Room: 1000000, Zone: long}},
		{Kind: 3, Name: long}, {Kind: 3, Name: "\x00"}, {Kind: 4, Name: wide}, {Kind: 6, Name: long},
		{Kind: 5, Lease: api.Lease{Job: "x", Node: "x"}},
		{Kind: 5, Lease: api.Lease{Job: long, Node: wide, Until: 1 << 40}},
		{Kind: 7}, {Kind: 7, N: 1}, {Kind: 7, N: 1 << 40},
	}
}

// wantCheck checks the result of Check, and that Encode fails with the same error and with nothing else.
func wantCheck(t *testing.T, r api.Request, want api.Errno) {
	t.Helper()
	if e := Check(r); e != want {
		t.Errorf("Check(%+v) = %d, want %d", r, e, want)
	}
	if b, e := Encode(r); e != want || (b == "") != (want != api.OK) {
		t.Errorf("Encode(%+v) = %q, %d, want %d", r, b, e, want)
	}
}

// wantDecode checks the result of Decode; with an error, the request must be zero.
func wantDecode(t *testing.T, b string, want api.Request, wantErrno api.Errno) {
	t.Helper()
	if r, e := Decode(b); r != want || e != wantErrno {
		t.Errorf("Decode(%q) = %+v, %d, want %+v, %d", b, r, e, want, wantErrno)
	}
}

// wantError checks that Decode returns an error and nothing else.
func wantError(t *testing.T, b string, want api.Errno) {
	t.Helper()
	wantDecode(t, b, api.Request{}, want)
}

// wantReply checks the result of ReadReply; with an error, the reply must be zero.
func wantReply(t *testing.T, b string, want api.Reply, wantErrno api.Errno) {
	t.Helper()
	if r, e := ReadReply(b); r != want || e != wantErrno {
		t.Errorf("ReadReply(%q) = %+v, %d, want %+v, %d", b, r, e, want, wantErrno)
	}
}

// num is short for prim.Number.
func num(n uint64) string { return prim.Number(n) }

// texts holds strings, and whether they are names.
func texts() map[string]bool {
	return map[string]bool{
		"":                              false,
		"x":                             true,
		"\x00":                          true,
		strings.Repeat("x", 16):         true,
		strings.Repeat("x", 17):         false,
		strings.Repeat("é", 8):          true,
		strings.Repeat("é", 8) + "x":    false,
		"\xff":                          false,
		"x\xc3":                         false,
		"\xed\xa0\x80":                  false,
		"\U0010ffff":                    true,
		strings.Repeat("x", 15) + "é":   false,
		strings.Repeat("\xff", 1<<10):   false,
		"\xf4\x90\x80\x80":              false,
		"\xc0\x80":                      false,
		strings.Repeat("\U0001f600", 4): true,
	}
}

// P20

func TestValidRequests(t *testing.T) {
	for _, r := range encodings() {
		wantCheck(t, r, api.OK)
	}
	for _, r := range limits() {
		wantCheck(t, r, api.OK)
	}
	// Only the server knows which jobs, nodes and leases there are.
	wantCheck(t, api.Request{Kind: 5, Lease: api.Lease{Job: "no job", Node: "no node", Until: 0}}, api.OK)
	wantCheck(t, api.Request{Kind: 3, Name: "no job"}, api.OK)
}

func TestUnknownKinds(t *testing.T) {
	for _, kind := range []int{0, -1, 10, 11, -9, 256, 257, 265, 1<<32 + 1, 1<<40 + 8, math.MinInt, math.MinInt + 1, math.MaxInt} {
		wantCheck(t, api.Request{Kind: kind}, api.ErrArg)
		for known := 1; known <= 9; known++ {
			r := sample(known)
			r.Kind = kind
			wantCheck(t, r, api.ErrArg)
		}
	}
}

// change sets a field of a request, which some kinds have.
type change struct {
	name  string
	set   func(r *api.Request)
	kinds []int
}

// changes holds every field, and every part of it.
func changes() []change {
	return []change{
		{"Job.Name", func(r *api.Request) { r.Job.Name = "x" }, []int{1}},
		{"Job.Prio", func(r *api.Request) { r.Job.Prio = -1 }, []int{1}},
		{"Job.Need", func(r *api.Request) { r.Job.Need = 1 }, []int{1}},
		{"Job.Tries", func(r *api.Request) { r.Job.Tries = 1 }, []int{1}},
		{"Job.Tag", func(r *api.Request) { r.Job.Tag = "x" }, []int{1}},
		{"Node.Name", func(r *api.Request) { r.Node.Name = "x" }, []int{2}},
		{"Node.Room", func(r *api.Request) { r.Node.Room = 1 }, []int{2}},
		{"Node.Zone", func(r *api.Request) { r.Node.Zone = "x" }, []int{2}},
		{"Lease.Job", func(r *api.Request) { r.Lease.Job = "x" }, []int{5}},
		{"Lease.Node", func(r *api.Request) { r.Lease.Node = "x" }, []int{5}},
		{"Lease.Until", func(r *api.Request) { r.Lease.Until = 1 }, []int{5}},
		{"Name", func(r *api.Request) { r.Name = "x" }, []int{3, 4, 6}},
		{"N", func(r *api.Request) { r.N = 1 }, []int{7}},
	}
}

func TestFieldsOfOtherKinds(t *testing.T) {
	for kind := 1; kind <= 9; kind++ {
		for _, c := range changes() {
			r := sample(kind)
			c.set(&r)
			want := api.ErrForm
			if slices.Contains(c.kinds, kind) {
				want = api.OK
			}
			if e := Check(r); e != want {
				t.Errorf("%s of kind %d: Check(%+v) = %d, want %d", c.name, kind, r, e, want)
			}
			wantCheck(t, r, want)
		}
	}
}

// A value that is not valid in its own kind is still a field that other kinds do not have.
func TestOddFieldsOfOtherKinds(t *testing.T) {
	for _, set := range []func(r *api.Request){
		func(r *api.Request) { r.N = -1 },
		func(r *api.Request) { r.N = math.MinInt },
		func(r *api.Request) { r.Name = "\xff" },
		func(r *api.Request) { r.Lease.Until = -1 },
		func(r *api.Request) { r.Job.Need = -1 },
		func(r *api.Request) { r.Node.Room = math.MaxInt },
		func(r *api.Request) { r.Node.Zone = strings.Repeat("z", 17) },
	} {
		for _, kind := range []int{8, 9} {
			r := api.Request{Kind: kind}
			set(&r)
			wantCheck(t, r, api.ErrForm)
		}
	}
}

func TestTexts(t *testing.T) {
	for s, isName := range texts() {
		want, note := api.OK, api.OK
		if !isName {
			want, note = api.ErrForm, api.ErrForm
		}
		if s == "" {
			note = api.OK
		}
		wantCheck(t, api.Request{Kind: 1, Job: api.Job{Name: s}}, want)
		wantCheck(t, api.Request{Kind: 1, Job: api.Job{Name: "j", Tag: s}}, note)
		wantCheck(t, api.Request{Kind: 2, Node: api.Node{Name: s}}, want)
		wantCheck(t, api.Request{Kind: 2, Node: api.Node{Name: "n", Zone: s}}, note)
		wantCheck(t, api.Request{Kind: 3, Name: s}, want)
		wantCheck(t, api.Request{Kind: 4, Name: s}, want)
		wantCheck(t, api.Request{Kind: 6, Name: s}, want)
		wantCheck(t, api.Request{Kind: 5, Lease: api.Lease{Job: s, Node: "n"}}, want)
		wantCheck(t, api.Request{Kind: 5, Lease: api.Lease{Job: "j", Node: s}}, want)
	}
	// The zero values of the kinds that have a name.
	for _, kind := range []int{1, 2, 3, 4, 5, 6} {
		wantCheck(t, api.Request{Kind: kind}, api.ErrForm)
	}
}

func TestNumbers(t *testing.T) {
	for _, f := range []struct {
		kind      int
		field     func(r *api.Request) *int
		low, high int
	}{
		{1, func(r *api.Request) *int { return &r.Job.Prio }, -1000, 1000},
		{1, func(r *api.Request) *int { return &r.Job.Need }, 0, 1000000},
		{1, func(r *api.Request) *int { return &r.Job.Tries }, 0, 100},
		{2, func(r *api.Request) *int { return &r.Node.Room }, 0, 1000000},
		{5, func(r *api.Request) *int { return &r.Lease.Until }, 0, 1 << 40},
		{7, func(r *api.Request) *int { return &r.N }, 0, 1 << 40},
	} {
		for n, want := range map[int]api.Errno{
			f.low: api.OK, f.low + 1: api.OK, f.high - 1: api.OK, f.high: api.OK,
			f.low - 1: api.ErrArg, f.high + 1: api.ErrArg, math.MinInt: api.ErrArg, math.MaxInt: api.ErrArg,
		} {
			r := sample(f.kind)
			*f.field(&r) = n
			wantCheck(t, r, want)
		}
	}
}

// Each request has two errors; the one that the chapter mentions first counts.
func TestFirstErrorCounts(t *testing.T) {
	bad := strings.Repeat("x", 17)
	for _, c := range []struct {
		r    api.Request
		want api.Errno
	}{
		{api.Request{Kind: 10, N: 1, Name: bad}, api.ErrArg},
		{api.Request{Kind: 0, Job: api.Job{Name: bad}}, api.ErrArg},
		{api.Request{Kind: 1, Job: api.Job{Name: "j", Need: -1}, N: 1}, api.ErrForm},
		{api.Request{Kind: 2, Node: api.Node{Name: "n", Room: -1}, Name: "a"}, api.ErrForm},
		{api.Request{Kind: 5, Lease: api.Lease{Job: "j", Node: "n", Until: -1}, Name: "a"}, api.ErrForm},
		{api.Request{Kind: 7, N: -1, Name: "a"}, api.ErrForm},
		{api.Request{Kind: 7, N: 1<<40 + 1, Lease: api.Lease{Until: 1}}, api.ErrForm},
		{api.Request{Kind: 1, Job: api.Job{Name: "j", Prio: 1001, Tag: bad}}, api.ErrForm},
		{api.Request{Kind: 2, Node: api.Node{Name: "", Room: -1}}, api.ErrForm},
		{api.Request{Kind: 5, Lease: api.Lease{Job: "", Node: "n", Until: -1}}, api.ErrForm},
		{api.Request{Kind: 5, Lease: api.Lease{Job: "j", Node: bad, Until: 1<<40 + 1}}, api.ErrForm},
	} {
		wantCheck(t, c.r, c.want)
	}
}

// P21

func TestEncode(t *testing.T) {
	if len(encodings()) != 9 {
		t.Fatal("a kind has no sample")
	}
	for want, r := range encodings() {
		if b, e := Encode(r); b != want || e != api.OK {
			t.Errorf("Encode(%+v) = %q, %d, want %q", r, b, e, want)
		}
		wantDecode(t, want, r, api.OK)
	}
}

func TestEncodeFields(t *testing.T) {
	long := strings.Repeat("x", 16)
	for want, r := range map[string]api.Request{
		"\x01\x01j\x00\x00\x00\x00":         {Kind: 1, Job: api.Job{Name: "j"}},
		"\x01\x01j\x01\x00\x00\x00":         {Kind: 1, Job: api.Job{Name: "j", Prio: -1}},
		"\x01\x01j\x02\x00\x00\x00":         {Kind: 1, Job: api.Job{Name: "j", Prio: 1}},
		"\x01\x01j\xcf\x0f\x00\x00\x00":     {Kind: 1, Job: api.Job{Name: "j", Prio: -1000}},
		"\x01\x01j\x00\x07\x00\x00":         {Kind: 1, Job: api.Job{Name: "j", Need: 7}},
		"\x01\x01j\x00\x00\x07\x00":         {Kind: 1, Job: api.Job{Name: "j", Tries: 7}},
		"\x01\x01j\x00\x00\x00\x01t":        {Kind: 1, Job: api.Job{Name: "j", Tag: "t"}},
		"\x02\x01n\x00\x00":                 {Kind: 2, Node: api.Node{Name: "n"}},
		"\x02\x01n\xc0\x84\x3d\x00":         {Kind: 2, Node: api.Node{Name: "n", Room: 1000000}},
		"\x02\x01n\x00\x01z":                {Kind: 2, Node: api.Node{Name: "n", Zone: "z"}},
		"\x03\x10" + long:                   {Kind: 3, Name: long},
		"\x05\x01j\x01n\x00":                {Kind: 5, Lease: api.Lease{Job: "j", Node: "n"}},
		"\x05\x10" + long + "\x01n\x07":     {Kind: 5, Lease: api.Lease{Job: long, Node: "n", Until: 7}},
		"\x07\x00":                          {Kind: 7},
		"\x07\x80\x80\x80\x80\x80\x20":      {Kind: 7, N: 1 << 40},
		"\x05\x01j\x01n" + num(1<<40):       {Kind: 5, Lease: api.Lease{Job: "j", Node: "n", Until: 1 << 40}},
		"\x06\x01\x00":                      {Kind: 6, Name: "\x00"},
		"\x04\x10" + strings.Repeat("é", 8): {Kind: 4, Name: strings.Repeat("é", 8)},
	} {
		if b, e := Encode(r); b != want || e != api.OK {
			t.Errorf("Encode(%+v) = %q, %d, want %q", r, b, e, want)
		}
		wantDecode(t, want, r, api.OK)
	}
	for _, r := range limits() {
		b, e := Encode(r)
		if e != api.OK {
			t.Errorf("Encode(%+v) = %d", r, e)
		}
		wantDecode(t, b, r, api.OK)
	}
}

// Every part of an encoding is too short, and every byte behind it is too many: encodings are prefix-free.
func TestDecodePrefixes(t *testing.T) {
	all := slices.Collect(maps.Keys(encodings()))
	for _, r := range limits() {
		b, _ := Encode(r)
		all = append(all, b)
	}
	for _, b := range all {
		for end := range len(b) {
			wantError(t, b[:end], api.ErrShort)
		}
		for _, more := range []string{"\x00", "x", "\xff", "\x80\x80", strings.Repeat("y", 6000)} {
			wantError(t, b+more, api.ErrForm)
		}
	}
}

func TestDecodeKinds(t *testing.T) {
	unknown := []uint64{0, 10, 11, 127, 128, 256, 257, 264, 1 << 16, 1<<32 + 8, 1 << 40, 1<<62 - 1, 1 << 62}
	large := []uint64{1<<62 + 1, 1<<62 + 8, 1 << 63, 1<<63 + 8, math.MaxUint64}
	// What follows an unknown kind does not count.
	for _, more := range []string{"", "\x00", "\x01a", "\xff", "\x80\x80", "\x11"} {
		for _, n := range unknown {
			wantError(t, num(n)+more, api.ErrArg)
		}
		for _, n := range large {
			wantError(t, num(n)+more, api.ErrLarge)
		}
		wantError(t, "\x88\x00"+more, api.ErrForm)
		wantError(t, "\x80\x00"+more, api.ErrForm)
		wantError(t, strings.Repeat("\xff", 9)+"\x02"+more, api.ErrForm)
		wantError(t, strings.Repeat("\x80", 10)+more, api.ErrForm)
	}
	wantError(t, "", api.ErrShort)
	wantError(t, "\x80", api.ErrShort)
	wantError(t, strings.Repeat("\xff", 9), api.ErrShort)
}

func TestDecodeNumbers(t *testing.T) {
	for _, f := range []struct {
		name, before, after string
		high                uint64
	}{
		{"Prio", "\x01\x01j", "\x00\x00\x00", 2000},
		{"Need", "\x01\x01j\x00", "\x00\x00", 1000000},
		{"Tries", "\x01\x01j\x00\x00", "\x00", 100},
		{"Room", "\x02\x01n", "\x00", 1000000},
		{"Until", "\x05\x01j\x01n", "", 1 << 40},
		{"N", "\x07", "", 1 << 40},
	} {
		for _, n := range []uint64{0, 1, f.high - 1, f.high} {
			if r, e := Decode(f.before + num(n) + f.after); e != api.OK || r == (api.Request{}) {
				t.Errorf("%s with the number %d: Decode = %+v, %d", f.name, n, r, e)
			}
		}
		for _, n := range []uint64{f.high + 1, f.high + 2, 1 << 50, 1<<62 - 1, 1 << 62} {
			wantError(t, f.before+num(n)+f.after, api.ErrArg)
			// Bytes that remain are found before the request is checked.
			wantError(t, f.before+num(n)+f.after+"\x00", api.ErrForm)
		}
		for _, n := range []uint64{1<<62 + 1, 1<<62 + 2, 1 << 63, math.MaxUint64} {
			wantError(t, f.before+num(n)+f.after, api.ErrLarge)
			wantError(t, f.before+num(n)+f.after+"\x00", api.ErrLarge)
			wantError(t, f.before+num(n), api.ErrLarge)
		}
		wantError(t, f.before, api.ErrShort)
		wantError(t, f.before+"\x80", api.ErrShort)
		wantError(t, f.before+"\x80\x00"+f.after, api.ErrForm)
		wantError(t, f.before+strings.Repeat("\xff", 10)+f.after, api.ErrForm)
	}
}

func TestDecodeTexts(t *testing.T) {
	long := strings.Repeat("x", 16)
	for _, c := range []struct {
		name, before, after string
		empty               api.Errno // what Decode returns for no text
	}{
		{"the name of a job", "\x01", "\x00\x00\x00\x00", api.ErrForm},
		{"Tag", "\x01\x01j\x00\x00\x00", "", api.OK},
		{"the name of a node", "\x02", "\x00\x00", api.ErrForm},
		{"Zone", "\x02\x01n\x00", "", api.OK},
		{"the job to delete", "\x03", "", api.ErrForm},
		{"the node to delete", "\x04", "", api.ErrForm},
		{"Job", "\x05", "\x01n\x00", api.ErrForm},
		{"Node", "\x05\x01j", "\x00", api.ErrForm},
		{"the job to free", "\x06", "", api.ErrForm},
	} {
		for b, want := range map[string]api.Errno{
			"\x00":         c.empty,
			"\x01x":        api.OK,
			"\x02é":        api.OK,
			"\x10" + long:  api.OK,
			"\x11" + long:  api.ErrLarge,
			"\x02\xc3x":    api.ErrForm,
			"\x81\x00x":    api.ErrForm,
			"\xff\xff\x03": api.ErrLarge,
			num(1 << 62):   api.ErrLarge,
		} {
			if _, e := Decode(c.before + b + c.after); e != want {
				t.Errorf("%s as %q: Decode = %d, want %d", c.name, b, e, want)
			}
		}
		wantError(t, c.before, api.ErrShort)
		wantError(t, c.before+"\x10"+long[1:len(long)-len(c.after)], api.ErrShort)
		wantError(t, c.before+"\x01\xff"+c.after, api.ErrForm)
	}
}

// Each encoding has two errors; the one that comes first in it counts, and that of the request comes last.
func TestDecodeFirstError(t *testing.T) {
	for _, c := range []struct {
		name, b string
		want    api.Errno
	}{
		{"an unknown kind before a text", "\x0a\x11", api.ErrArg},
		{"an unknown kind before what remains", "\x00x", api.ErrArg},
		{"a large text before its form", "\x03\x11\xff", api.ErrLarge},
		{"a large number before what is missing", "\x01\x01j" + num(1<<62+1), api.ErrLarge},
		{"a text before a number", "\x01\x01\xff" + num(1<<62+1), api.ErrForm},
		{"what is missing before an empty name", "\x01\x00\x00", api.ErrShort},
		{"what is missing before a number out of bounds", "\x01\x01j\xd1\x0f", api.ErrShort},
		{"what remains before a number out of bounds", "\x07" + num(1<<40+1) + "x", api.ErrForm},
		{"an empty name before a number out of bounds", "\x02\x00" + num(1000001) + "\x00", api.ErrForm},
		{"an empty node before Until", "\x05\x01j\x00" + num(1<<40+1), api.ErrForm},
		{"a number out of bounds", "\x05\x01j\x01n" + num(1<<40+1), api.ErrArg},
	} {
		if r, e := Decode(c.b); r != (api.Request{}) || e != c.want {
			t.Errorf("%s: Decode(%q) = %+v, %d, want %d", c.name, c.b, r, e, c.want)
		}
	}
}

func TestReply(t *testing.T) {
	for want, r := range map[string]api.Reply{
		"\x00\x00":                     {},
		"\x00\x01":                     {Rev: 1},
		"\x0a\x00":                     {Code: api.ErrOld},
		"\x09\xc8\x01":                 {Code: api.ErrRoom, Rev: 200},
		"\x01\x80\x80\x80\x80\x80\x20": {Code: api.ErrArg, Rev: 1 << 40},
		"\x04\xff\xff\xff\xff\xff\x1f": {Code: api.ErrForm, Rev: 1<<40 - 1},
	} {
		if b, e := Reply(r); b != want || e != api.OK {
			t.Errorf("Reply(%+v) = %q, %d, want %q", r, b, e, want)
		}
		wantReply(t, want, r, api.OK)
		for end := range len(want) {
			wantReply(t, want[:end], api.Reply{}, api.ErrShort)
		}
		for _, more := range []string{"\x00", "x", "\xff"} {
			wantReply(t, want+more, api.Reply{}, api.ErrForm)
		}
	}
}

func TestReplyErrors(t *testing.T) {
	numbers := []int{math.MinInt, -1, 0, 1, 9, 10, 11, 12, 256, 1 << 32, 1<<40 - 1, 1 << 40, 1<<40 + 1, 1 << 62, math.MaxInt}
	for _, code := range numbers {
		for _, rev := range numbers {
			r := api.Reply{Code: api.Errno(code), Rev: rev}
			want, bytes := api.ErrArg, ""
			if code >= 0 && code <= 10 && rev >= 0 && rev <= 1<<40 {
				want, bytes = api.OK, num(uint64(code))+num(uint64(rev))
			}
			if b, e := Reply(r); b != bytes || e != want {
				t.Errorf("Reply(%+v) = %q, %d, want %q, %d", r, b, e, bytes, want)
			}
		}
	}
}

func TestReadReplyErrors(t *testing.T) {
	for _, c := range []struct {
		b    string
		want api.Errno
	}{
		{"", api.ErrShort}, {"\x80", api.ErrShort}, {"\x0b", api.ErrShort}, {"\x00\x80", api.ErrShort},
		{"\x80\x00", api.ErrForm}, {"\x00\x80\x00", api.ErrForm}, {strings.Repeat("\xff", 10), api.ErrForm}, {"\x00" + strings.Repeat("\x80", 10), api.ErrForm},
		{"\x0b\x00", api.ErrArg}, {"\x80\x01\x00", api.ErrArg}, {num(1<<62) + "\x00", api.ErrArg}, {num(1<<32) + "\x00", api.ErrArg},
		{"\x00" + num(1<<40+1), api.ErrArg}, {"\x00" + num(1<<62), api.ErrArg}, {num(1<<62) + num(1<<62), api.ErrArg},
		{num(1<<62 + 1), api.ErrLarge}, {num(math.MaxUint64) + "\x00", api.ErrLarge}, {"\x00" + num(1<<62+1), api.ErrLarge}, {"\x00" + num(1<<63), api.ErrLarge},
		// The first error in reading order, then what remains, then the bounds.
		{num(1<<62+1) + "\x80\x00", api.ErrLarge}, {"\x0b\x80\x00", api.ErrForm}, {"\x0b" + num(1<<62+1), api.ErrLarge},
		{"\x80\x00" + num(1<<62+1), api.ErrForm}, {"\x00" + num(1<<62+1) + "x", api.ErrLarge},
		{"\x0b\x00\x00", api.ErrForm}, {"\x00" + num(1<<40+1) + "x", api.ErrForm},
	} {
		wantReply(t, c.b, api.Reply{}, c.want)
	}
}

// Rules for all requests and replies

// isName follows chapter 4.
func isName(s string) bool { return len(s) >= 1 && len(s) <= 16 && utf8.ValidString(s) }

// checkByRule follows the chapter sentence by sentence.
func checkByRule(r api.Request) api.Errno {
	if r.Kind < 1 || r.Kind > 9 {
		return api.ErrArg
	}
	named := r.Kind == 3 || r.Kind == 4 || r.Kind == 6
	switch {
	case r.Kind != 1 && r.Job != (api.Job{}), r.Kind != 2 && r.Node != (api.Node{}), r.Kind != 5 && r.Lease != (api.Lease{}):
		return api.ErrForm
	case !named && r.Name != "", r.Kind != 7 && r.N != 0:
		return api.ErrForm
	case r.Kind == 1:
		return state.Check(api.State{Jobs: []api.Job{r.Job}})
	case r.Kind == 2:
		return state.Check(api.State{Nodes: []api.Node{r.Node}})
	case named && !isName(r.Name):
		return api.ErrForm
	case r.Kind == 5 && (!isName(r.Lease.Job) || !isName(r.Lease.Node)):
		return api.ErrForm
	case r.Kind == 5 && (r.Lease.Until < 0 || r.Lease.Until > 1<<40):
		return api.ErrArg
	case r.Kind == 7 && (r.N < 0 || r.N > 1<<40):
		return api.ErrArg
	}
	return api.OK
}

// encodeByRule follows the chapter for a valid request.
func encodeByRule(r api.Request) string {
	text := func(s string) string { return num(uint64(len(s))) + s }
	b := num(uint64(r.Kind))
	switch r.Kind {
	case 1:
		b += text(r.Job.Name) + num(prim.Zig(int64(r.Job.Prio))) + num(uint64(r.Job.Need)) + num(uint64(r.Job.Tries)) + text(r.Job.Tag)
	case 2:
		b += text(r.Node.Name) + num(uint64(r.Node.Room)) + text(r.Node.Zone)
	case 3, 4, 6:
		b += text(r.Name)
	case 5:
		b += text(r.Lease.Job) + text(r.Lease.Node) + num(uint64(r.Lease.Until))
	case 7:
		b += num(uint64(r.N))
	}
	return b
}

// cursor reads by the rules of chapter 5; an error is a panic.
type cursor struct{ rest string }

func (c *cursor) number() uint64 {
	n, size, e := prim.ReadNumber(c.rest)
	must(e)
	if n > 1<<62 {
		must(api.ErrLarge)
	}
	c.rest = c.rest[size:]
	return n
}

func (c *cursor) text() string {
	s, size, e := prim.ReadText(c.rest)
	must(e)
	c.rest = c.rest[size:]
	return s
}

func (c *cursor) end() {
	if c.rest != "" {
		must(api.ErrForm)
	}
}

func must(e api.Errno) {
	if e != api.OK {
		panic(e)
	}
}

// decodeByRule follows the chapter sentence by sentence.
func decodeByRule(b string) (r api.Request, e api.Errno) {
	defer func() {
		if p := recover(); p != nil {
			r, e = api.Request{}, p.(api.Errno)
		}
	}()
	c := &cursor{b}
	kind := c.number()
	if kind < 1 || kind > 9 {
		must(api.ErrArg)
	}
	r.Kind = int(kind)
	switch kind {
	case 1:
		r.Job.Name = c.text()
		r.Job.Prio = int(prim.Zag(c.number()))
		r.Job.Need = int(c.number())
		r.Job.Tries = int(c.number())
		r.Job.Tag = c.text()
	case 2:
		r.Node.Name = c.text()
		r.Node.Room = int(c.number())
		r.Node.Zone = c.text()
	case 3, 4, 6:
		r.Name = c.text()
	case 5:
		r.Lease.Job = c.text()
		r.Lease.Node = c.text()
		r.Lease.Until = int(c.number())
	case 7:
		r.N = int(c.number())
	}
	c.end()
	must(checkByRule(r))
	return r, api.OK
}

// readReplyByRule follows the chapter sentence by sentence.
func readReplyByRule(b string) (r api.Reply, e api.Errno) {
	defer func() {
		if p := recover(); p != nil {
			r, e = api.Reply{}, p.(api.Errno)
		}
	}()
	c := &cursor{b}
	code := c.number()
	rev := c.number()
	c.end()
	if code > 10 || rev > 1<<40 {
		must(api.ErrArg)
	}
	return api.Reply{Code: api.Errno(code), Rev: int(rev)}, api.OK
}

// randomRequest returns a request that is often valid.
func randomRequest(r *rand.Rand) api.Request {
	pick := func(l ...string) string { return l[r.Intn(len(l))] }
	word := func() string {
		if r.Intn(30) == 0 {
			return pick("", "\xff", strings.Repeat("x", 17), strings.Repeat("x", 16))
		}
		return pick("a", "bb", "é", "\x00", "name")
	}
	count := func(high int) int {
		if r.Intn(30) == 0 {
			return []int{-1, high, high + 1, math.MinInt, math.MaxInt}[r.Intn(5)]
		}
		return r.Intn(300) % (high + 1)
	}
	q := api.Request{Kind: 1 + r.Intn(9)}
	kinds := []int{q.Kind}
	if r.Intn(8) == 0 {
		kinds = append(kinds, 1+r.Intn(9)) // the fields of another kind, too
	}
	for _, kind := range kinds {
		switch kind {
		case 1:
			q.Job = api.Job{Name: word(), Prio: count(1000) - r.Intn(2), Need: count(1000000), Tries: count(100), Tag: word()}
		case 2:
			q.Node = api.Node{Name: word(), Room: count(1000000), Zone: word()}
		case 3, 4, 6:
			q.Name = word()
		case 5:
			q.Lease = api.Lease{Job: word(), Node: word(), Until: count(1 << 40)}
		case 7:
			q.N = count(1 << 40)
		}
	}
	if r.Intn(30) == 0 {
		q.Kind = r.Intn(14) - 2
	}
	return q
}

// enough checks that the random inputs lead to each of the results.
func enough(t *testing.T, seen map[api.Errno]int, results ...api.Errno) {
	t.Helper()
	for _, e := range results {
		if seen[e] < 50 {
			t.Errorf("only %d inputs have the result %d", seen[e], e)
		}
	}
}

func TestCheckAndEncodeByRule(t *testing.T) {
	r := rand.New(rand.NewSource(20))
	seen := map[api.Errno]int{}
	for range 40000 {
		q := randomRequest(r)
		want, bytes := checkByRule(q), ""
		seen[want]++
		if e := Check(q); e != want {
			t.Fatalf("Check(%+v) = %d, want %d", q, e, want)
		}
		if want == api.OK {
			bytes = encodeByRule(q)
			wantDecode(t, bytes, q, api.OK)
		}
		if b, e := Encode(q); b != bytes || e != want {
			t.Fatalf("Encode(%+v) = %q, %d, want %q, %d", q, b, e, bytes, want)
		}
	}
	enough(t, seen, api.OK, api.ErrArg, api.ErrForm)
}

// damaged returns b with a change somewhere.
func damaged(b string, r *rand.Rand) string {
	at := r.Intn(len(b))
	bytes := []string{"\x00", "\x01", "\x02", "\x09", "\x0a", "\x10", "\x11", "\x7f", "\x80", "\xff", "a", "z", num(1 << 40), num(1<<40 + 1), num(1 << 62), num(1<<62 + 1)}
	other := bytes[r.Intn(len(bytes))]
	switch r.Intn(5) {
	case 0:
		return b[:at]
	case 1:
		return b[:at] + other + b[at:]
	case 2:
		return b[:at] + b[at+1:]
	case 3:
		return b[:at] + string([]byte{b[at] + byte(r.Intn(5)) - 2}) + b[at+1:]
	}
	return b[:at] + other + b[at+1:]
}

// inputs holds encodings of requests and replies, most of them damaged.
func inputs() []string {
	r := rand.New(rand.NewSource(21))
	var all []string
	for range 8000 {
		// Also for requests that are not valid: Decode checks them.
		b := encodeByRule(randomRequest(r))
		reply := num(uint64(r.Intn(12))) + num(uint64(r.Intn(400)))
		all = append(all, b, damaged(b, r), damaged(damaged(b, r)+"\x00", r), reply, damaged(reply, r))
	}
	for range 8000 {
		b := make([]byte, r.Intn(8))
		for i := range b {
			b[i] = byte(r.Intn(11))
			if r.Intn(10) == 0 {
				b[i] = byte(r.Intn(256))
			}
		}
		all = append(all, string(b))
	}
	return all
}

func TestDecodeByRule(t *testing.T) {
	seen, kinds := map[api.Errno]int{}, map[int]int{}
	for _, b := range inputs() {
		want, wantErrno := decodeByRule(b)
		seen[wantErrno]++
		kinds[want.Kind]++
		wantDecode(t, b, want, wantErrno)
		if wantErrno != api.OK {
			continue
		}
		// What can be decoded is the only encoding of its request.
		if again, e := Encode(want); again != b || e != api.OK {
			t.Fatalf("Encode(%+v) = %q, %d, want %q", want, again, e, b)
		}
	}
	enough(t, seen, api.OK, api.ErrArg, api.ErrLarge, api.ErrShort, api.ErrForm)
	for kind := 1; kind <= 9; kind++ {
		if kinds[kind] < 50 {
			t.Errorf("only %d inputs have the kind %d", kinds[kind], kind)
		}
	}
}

func TestReadReplyByRule(t *testing.T) {
	seen := map[api.Errno]int{}
	for _, b := range inputs() {
		want, wantErrno := readReplyByRule(b)
		seen[wantErrno]++
		wantReply(t, b, want, wantErrno)
		if wantErrno != api.OK {
			continue
		}
		if again, e := Reply(want); again != b || e != api.OK {
			t.Fatalf("Reply(%+v) = %q, %d, want %q", want, again, e, b)
		}
	}
	enough(t, seen, api.OK, api.ErrArg, api.ErrLarge, api.ErrShort, api.ErrForm)
}

// P1

// oddRequests holds requests with extreme values.
func oddRequests() []api.Request {
	long := strings.Repeat("\xff", 1<<20)
	var all []api.Request
	for _, kind := range []int{math.MinInt, -1, 0, 1, 2, 3, 4, 5, 6, 7, 8, 9, 10, math.MaxInt} {
		for _, n := range []int{math.MinInt, -1, 0, 1, 1<<40 + 1, math.MaxInt} {
			for _, s := range []string{"", "a", long} {
				all = append(all,
					api.Request{Kind: kind, Job: api.Job{Name: s, Prio: n, Need: n, Tries: n, Tag: s}},
					api.Request{Kind: kind, Node: api.Node{Name: s, Room: n, Zone: s}},
					api.Request{Kind: kind, Lease: api.Lease{Job: s, Node: s, Until: n}},
					api.Request{Kind: kind, Name: s, N: n},
				)
			}
		}
	}
	return all
}

func TestNothingPanics(t *testing.T) {
	defer func() {
		if p := recover(); p != nil {
			t.Error(p)
		}
	}()
	for _, r := range oddRequests() {
		Check(r)
		Encode(r)
		Reply(api.Reply{Code: api.Errno(r.Kind), Rev: r.N})
	}
	for first := range 256 {
		for second := range 256 {
			b := string([]byte{byte(first), byte(second)})
			for _, s := range []string{b, b + "\x01a", "\x01\x01a" + b, "\x05" + b, b + strings.Repeat("\x80", 12)} {
				Decode(s)
				ReadReply(s)
			}
		}
	}
	for kind := range 12 {
		for _, filler := range []string{"\x00", "\x01", "\x02", "\x10", "\x80", "\xff"} {
			s := num(uint64(kind)) + strings.Repeat(filler, 1<<16)
			Decode(s)
			ReadReply(s)
		}
	}
}

// P2

func TestResultsDependOnArgumentsOnly(t *testing.T) {
	type result struct {
		r, read     api.Request
		reply       api.Reply
		bytes, sent string
		errors      [5]api.Errno
	}
	type input struct {
		r     api.Request
		reply api.Reply
		bytes string
	}
	run := func(in input) (r result) {
		r.errors[0] = Check(in.r)
		r.bytes, r.errors[1] = Encode(in.r)
		r.read, r.errors[2] = Decode(in.bytes)
		r.sent, r.errors[3] = Reply(in.reply)
		r.reply, r.errors[4] = ReadReply(in.bytes)
		return r
	}
	r := rand.New(rand.NewSource(22))
	var all []input
	for _, bytes := range inputs()[:6000] {
		all = append(all, input{randomRequest(r), api.Reply{Code: api.Errno(r.Intn(13) - 1), Rev: r.Intn(20) - 1}, bytes})
	}
	first := make([]result, len(all))
	for i, in := range all {
		first[i] = run(in)
	}
	for i := len(all) - 1; i >= 0; i-- {
		if again := run(all[i]); again != first[i] {
			t.Errorf("input %s: first %+v, then %+v", fmt.Sprint(all[i]), first[i], again)
		}
	}
}

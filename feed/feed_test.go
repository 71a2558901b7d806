package feed

import (
	"math/rand"
	"slices"
	"strings"
	"testing"

	"bracken/api"
	"bracken/frame"
)

// mustEncode returns the bytes of valid frames.
func mustEncode(t *testing.T, frames ...api.Frame) string {
	t.Helper()
	all := ""
	for _, f := range frames {
		s, e := frame.Encode(f)
		if e != api.OK {
			t.Fatalf("Encode(%d, %d, %d bytes): error %d", f.Version, f.Kind, len(f.Payload), e)
		}
		all += s
	}
	return all
}

// some holds frames of every version and kind, with payloads that also contain the beginning of a frame.
func some() []api.Frame {
	return []api.Frame{
		{Version: 1, Kind: api.KReply, Payload: "p"},
		{Version: 3, Kind: api.KReply},
		{Version: 2, Kind: api.KDelta, Payload: "BK\x01\x01\x00"},
		{Version: 3, Kind: api.KRequest, Payload: "BK"},
		{Version: 1, Kind: api.KState, Payload: strings.Repeat("\x80", 130)},
	}
}

// expect checks what a feed says about itself.
func expect(t *testing.T, f *Feed, left, at int) {
	t.Helper()
	if f.Left() != left || f.At() != at {
		t.Errorf("Left and At are %d and %d, want %d and %d", f.Left(), f.At(), left, at)
	}
}

// push checks the result of Push.
func push(t *testing.T, f *Feed, s string, frames []api.Frame, want api.Errno) {
	t.Helper()
	if got, e := f.Push(s); !slices.Equal(got, frames) || e != want {
		t.Errorf("Push(%.40q) = %d frames, %d, want %d frames, %d", s, len(got), e, len(frames), want)
	}
}

// P8

func TestNewHasReceivedNothing(t *testing.T) {
	f := New()
	expect(t, f, 0, 0)
	push(t, f, "", nil, api.OK)
	expect(t, f, 0, 0)
	if New() == f {
		t.Error("New returns the same feed twice")
	}
}

func TestHalfOfAFrame(t *testing.T) {
	for _, x := range some() {
		s := mustEncode(t, x)
		for half := range len(s) {
			f := New()
			push(t, f, s[:half], nil, api.OK)
			expect(t, f, half, 0)
			push(t, f, s[half:], []api.Frame{x}, api.OK)
			expect(t, f, 0, len(s))
			push(t, f, s+s[:half], []api.Frame{x}, api.OK)
			expect(t, f, half, 2*len(s))
		}
	}
}

func TestManyFramesAtOnce(t *testing.T) {
	all := some()
	s := mustEncode(t, all...)
	f := New()
	push(t, f, s, all, api.OK)
	expect(t, f, 0, len(s))
	push(t, f, "", nil, api.OK)
	push(t, f, strings.Repeat(s, 1000), slices.Repeat(all, 1000), api.OK)
	expect(t, f, 0, 1001*len(s))
}

func TestLongestFrame(t *testing.T) {
	long := api.Frame{Version: 3, Kind: api.KState, Payload: strings.Repeat("BK", api.MaxPayload/2)}
	s := mustEncode(t, long)
	f := New()
	push(t, f, s+s[:len(s)-1], []api.Frame{long}, api.OK)
	expect(t, f, len(s)-1, len(s))
	push(t, f, s[len(s)-1:], []api.Frame{long}, api.OK)
	for i := range len(s) - 1 {
		push(t, f, s[i:i+1], nil, api.OK)
		expect(t, f, i+1, 2*len(s))
	}
	push(t, f, s[len(s)-1:], []api.Frame{long}, api.OK)
	expect(t, f, 0, 3*len(s))
}

// failures holds ends of streams that are no beginning of a frame: without their last byte, each of them is one.
func failures(t *testing.T) map[string]api.Errno {
	s := mustEncode(t, some()[0])
	return map[string]api.Errno{
		"x":                  api.ErrForm,
		"Bx":                 api.ErrForm,
		"BK\x00":             api.ErrArg,
		"BK\x04":             api.ErrArg,
		"BK\x01\x05":         api.ErrArg,
		"BK\x01\x01\x80\x00": api.ErrForm, // a length that is longer than needed
		"BK\x01\x01" + strings.Repeat("\x80", 10): api.ErrForm,
		"BK\x01\x01\xf1\x2e":                      api.ErrLarge,
		s[:len(s)-1] + "\x00":                     api.ErrSum,
	}
}

func TestFailures(t *testing.T) {
	all := some()
	s := mustEncode(t, all...)
	for bad, want := range failures(t) {
		for _, tail := range []string{"", "x", s} {
			f := New() // the frames come together with the error
			push(t, f, s+bad+tail, all, want)
			expect(t, f, 0, len(s))
			f = New() // the error comes alone
			push(t, f, s[:len(s)-1], all[:len(all)-1], api.OK)
			push(t, f, s[len(s)-1:], all[len(all)-1:], api.OK)
			push(t, f, bad[:len(bad)-1], nil, api.OK)
			expect(t, f, len(bad)-1, len(s))
			push(t, f, bad[len(bad)-1:]+tail, nil, want)
			expect(t, f, 0, len(s))
			f = New() // nothing was received before
			push(t, f, bad+tail, nil, want)
			expect(t, f, 0, 0)
		}
	}
}

func TestFailedFeedsReceiveNothing(t *testing.T) {
	s := mustEncode(t, some()[0])
	for bad, want := range failures(t) {
		f := New()
		push(t, f, s+s+bad, []api.Frame{some()[0], some()[0]}, want)
		for _, later := range []string{"", s, "x", s[:5], "BK\x00", s[5:], bad} {
			push(t, f, later, nil, want)
			expect(t, f, 0, 2*len(s))
		}
	}
}

func TestFeedsAreIndependent(t *testing.T) {
	all := some()
	s := mustEncode(t, all...)
	f, g, h := New(), New(), New()
	push(t, f, s[:20], all[:2], api.OK)
	push(t, g, "x", nil, api.ErrForm)
	push(t, h, s[:3], nil, api.OK)
	push(t, f, s[20:], all[2:], api.OK)
	push(t, h, s[3:], all, api.OK)
	expect(t, f, 0, len(s))
	expect(t, g, 0, 0)
	expect(t, h, 0, len(s))
}

// whole follows the chapter with the whole stream at hand, from its beginning on each call.
type whole struct {
	stream   string
	returned int
	at       int
	failure  api.Errno
}

func (w *whole) push(s string) ([]api.Frame, api.Errno) {
	if w.failure != api.OK {
		return nil, w.failure
	}
	w.stream += s
	var frames []api.Frame
	w.at = 0
	e := api.OK
	for e == api.OK {
		var next api.Frame
		var size int
		if next, size, e = frame.Decode(w.stream[w.at:]); e == api.OK {
			frames = append(frames, next)
			w.at += size
		}
	}
	if e != api.ErrShort {
		w.failure = e
	}
	later := frames[w.returned:]
	w.returned = len(frames)
	return later, w.failure
}

func (w *whole) left() int {
	if w.failure != api.OK {
		return 0
	}
	return len(w.stream) - w.at
}

// streams holds streams of frames, many of them with a damaged byte.
func streams(t *testing.T) []string {
	r := rand.New(rand.NewSource(1))
	var all []string
	for range 600 {
		s := ""
		for range r.Intn(6) {
			payload := make([]byte, r.Intn(40))
			r.Read(payload)
			s += mustEncode(t, api.Frame{Version: 1 + r.Intn(3), Kind: 1 + r.Intn(4), Payload: string(payload)})
		}
		if b := []byte(s); len(b) > 0 && r.Intn(2) == 0 {
			b[r.Intn(len(b))] = byte(r.Intn(256))
			s = string(b)
		}
		all = append(all, s[:len(s)-r.Intn(min(len(s), 3)+1)])
	}
	return all
}

// pieces divides s at random; some pieces are empty.
func pieces(r *rand.Rand, s string) []string {
	var all []string
	longest := 1 + r.Intn(60)
	for s != "" {
		size := min(r.Intn(longest+1), len(s))
		all = append(all, s[:size])
		s = s[size:]
	}
	return append(all, "", "BK\x01")
}

func TestPushByRule(t *testing.T) {
	r := rand.New(rand.NewSource(2))
	seen := map[api.Errno]int{}
	for _, s := range streams(t) {
		f, w := New(), &whole{}
		for _, piece := range pieces(r, s) {
			frames, e := w.push(piece)
			push(t, f, piece, frames, e)
			expect(t, f, w.left(), w.at)
		}
		seen[w.failure]++
	}
	for _, e := range []api.Errno{api.OK, api.ErrArg, api.ErrLarge, api.ErrForm, api.ErrSum} {
		if seen[e] == 0 {
			t.Errorf("no stream has the result %d", e)
		}
	}
}

// The frames, the last error and the end do not depend on how the stream is divided.
func TestDivisionDoesNotMatter(t *testing.T) {
	r := rand.New(rand.NewSource(3))
	for _, s := range streams(t) {
		at := New()
		want, wantError := at.Push(s)
		ways := [][]string{nil} // the first one: byte by byte
		for i := range len(s) {
			ways[0] = append(ways[0], s[i:i+1])
		}
		for cut := range len(s) {
			ways = append(ways, []string{s[:cut], s[cut:]})
		}
		for range 5 {
			p := pieces(r, s)
			ways = append(ways, p[:len(p)-1])
		}
		for _, way := range ways {
			f := New()
			var got []api.Frame
			e := api.OK
			for _, piece := range way {
				var frames []api.Frame
				frames, e = f.Push(piece)
				got = append(got, frames...)
			}
			if !slices.Equal(got, want) || e != wantError {
				t.Errorf("%q divided into %d pieces: %d frames, %d, want %d frames, %d", s, len(way), len(got), e, len(want), wantError)
			}
			expect(t, f, at.Left(), at.At())
		}
	}
}

// P1

func TestNothingPanics(t *testing.T) {
	defer func() {
		if p := recover(); p != nil {
			t.Error(p)
		}
	}()
	empty := mustEncode(t, api.Frame{Version: 1, Kind: 1})
	for _, s := range []string{
		"", "B", strings.Repeat("\x00", 1<<20), strings.Repeat("BK", 1<<19), strings.Repeat(empty, 1<<16),
		"BK\x01\x01" + strings.Repeat("\x80", 1<<20), "BK\x01\x01\xf0\x2e" + strings.Repeat("a", 1<<20),
	} {
		f := New()
		for range 3 {
			f.Push(s)
			f.Left()
			f.At()
		}
	}
	for a := range 256 {
		for b := range 256 {
			New().Push("BK" + string([]byte{byte(a), byte(b), 0}))
		}
	}
}

// P2 (package rules tests that results share no memory with arguments)

func TestResultsDependOnArgumentsOnly(t *testing.T) {
	run := func(s string) ([]api.Frame, api.Errno, int, int) {
		f := New()
		frames, e := f.Push(s)
		return frames, e, f.Left(), f.At()
	}
	all := streams(t)
	for i, s := range all {
		frames, e, left, at := run(s)
		run(all[len(all)-1-i])
		if again, e2, left2, at2 := run(s); !slices.Equal(again, frames) || e2 != e || left2 != left || at2 != at {
			t.Errorf("%q: two feeds differ", s)
		}
	}
}

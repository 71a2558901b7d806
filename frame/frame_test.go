package frame

import (
	"encoding/binary"
	"hash/crc32"
	"math"
	"math/rand"
	"strings"
	"testing"

	"bracken/api"
	"bracken/prim"
)

// withSum appends the checksum to s, computed by the library.
func withSum(s string) string {
	return string(binary.BigEndian.AppendUint32([]byte(s), crc32.ChecksumIEEE([]byte(s))))
}

// payloads holds payloads of lengths at the edges: those of the varint and that of the limit.
func payloads() []string {
	all := []string{"", "a", "abc", "\x00", "\xff\xfe", "BK\x01\x01\x00"}
	for _, length := range []int{2, 126, 127, 128, 129, 300, 5999, 6000} {
		all = append(all, strings.Repeat("p", length))
	}
	b := make([]byte, 1000)
	rand.New(rand.NewSource(1)).Read(b)
	return append(all, string(b))
}

// frames holds frames of every version and kind with every payload of payloads.
func frames() []api.Frame {
	var all []api.Frame
	for version := 1; version <= 3; version++ {
		for kind := 1; kind <= 4; kind++ {
			for _, p := range payloads() {
				all = append(all, api.Frame{Version: version, Kind: kind, Payload: p})
			}
		}
	}
	return all
}

// mustEncode returns the bytes of a valid frame.
func mustEncode(t *testing.T, f api.Frame) string {
	t.Helper()
	s, e := Encode(f)
	if e != api.OK {
		t.Fatalf("Encode(%d, %d, %d bytes): error %d", f.Version, f.Kind, len(f.Payload), e)
	}
	return s
}

// expectError checks that Decode returns this error and nothing else.
func expectError(t *testing.T, s string, want api.Errno) {
	t.Helper()
	if f, n, e := Decode(s); f != (api.Frame{}) || n != 0 || e != want {
		t.Errorf("Decode(%.40q) = %v, %d, %d, want error %d", s, f, n, e, want)
	}
}

// P6

func TestEncodeExamples(t *testing.T) {
	for s, f := range map[string]api.Frame{
		"BK\x03\x04\x00":     {Version: 3, Kind: api.KReply},
		"BK\x01\x01\x00":     {Version: 1, Kind: api.KState},
		"BK\x02\x01\x03abc":  {Version: 2, Kind: api.KState, Payload: "abc"},
		"BK\x03\x02\x02\x00": {Version: 3, Kind: api.KDelta, Payload: "\x00\xff"},
		"BK\x03\x03\xac\x02": {Version: 3, Kind: api.KRequest, Payload: strings.Repeat("a", 300)},
		"BK\x01\x02\xf0\x2e": {Version: 1, Kind: api.KDelta, Payload: strings.Repeat("b", 6000)},
	} {
		got := mustEncode(t, f)
		if !strings.HasPrefix(got, s) || !strings.HasSuffix(got[:len(got)-4], f.Payload) {
			t.Errorf("Encode(%d, %d, %.20q) = %.40q, want %q first", f.Version, f.Kind, f.Payload, got, s)
		}
	}
	if n := len(mustEncode(t, api.Frame{Version: 3, Kind: api.KReply})); n != 9 {
		t.Errorf("a frame with an empty payload has %d bytes", n)
	}
	// The checksum in full, so that its order of bytes does not depend on another function.
	if s := mustEncode(t, api.Frame{Version: 3, Kind: api.KReply}); s[5:] != "\xce\x2e\x58\x55" {
		t.Errorf("the checksum of an empty reply is %x", s[5:])
	}
}

func TestEncodeByRule(t *testing.T) {
	for _, f := range frames() {
		want := withSum("BK" + string([]byte{byte(f.Version), byte(f.Kind)}) + prim.Number(uint64(len(f.Payload))) + f.Payload)
		if got := mustEncode(t, f); got != want {
			t.Errorf("Encode(%d, %d, %.20q) = %.40q, want %.40q", f.Version, f.Kind, f.Payload, got, want)
		}
	}
}

func TestEncodeErrors(t *testing.T) {
	long := strings.Repeat("a", 6001)
	outside := []int{0, -1, 255, 256, 257, 258, 1 << 32, 1<<32 + 1, math.MaxInt, math.MinInt, math.MinInt + 1}
	bad := []api.Frame{{}}
	for _, n := range append(outside, 4, 5) {
		bad = append(bad, api.Frame{Version: n, Kind: 1}, api.Frame{Version: n, Kind: 4, Payload: "abc"})
	}
	for _, n := range append(outside, 5, 6) {
		bad = append(bad, api.Frame{Version: 1, Kind: n}, api.Frame{Version: 3, Kind: n, Payload: "abc"})
	}
	for _, f := range bad {
		for _, payload := range []string{f.Payload, long} { // ErrArg before ErrLarge
			f.Payload = payload
			if s, e := Encode(f); s != "" || e != api.ErrArg {
				t.Errorf("Encode(%d, %d, %d bytes) = %.40q, %d, want ErrArg", f.Version, f.Kind, len(payload), s, e)
			}
		}
	}
	for _, length := range []int{6001, 6002, 16384, 1 << 20} {
		f := api.Frame{Version: 1, Kind: 1, Payload: strings.Repeat("a", length)}
		if s, e := Encode(f); s != "" || e != api.ErrLarge {
			t.Errorf("Encode of %d bytes = %.40q, %d, want ErrLarge", length, s, e)
		}
	}
}

// P7

func TestDecodeInvertsEncode(t *testing.T) {
	for _, f := range frames() {
		s := mustEncode(t, f)
		for _, tail := range []string{"", "\x00", "BK", "x", s} {
			if g, n, e := Decode(s + tail); g != f || n != len(s) || e != api.OK {
				t.Errorf("Decode(%.40q + %.10q) = %v, %d, %d", s, tail, g, n, e)
			}
		}
	}
}

func TestDecodeBeginnings(t *testing.T) {
	for _, f := range frames() {
		s := mustEncode(t, f)
		step := 1 + len(s)/100 // every end near the edges, some of the others
		for end := 0; end < len(s); end++ {
			if end > 10 && end < len(s)-10 && end%step != 0 {
				continue
			}
			expectError(t, s[:end], api.ErrShort)
		}
	}
}

func TestDecodeErrors(t *testing.T) {
	huge := strings.Repeat("\x80", 9) + "\x01"
	for s, want := range map[string]api.Errno{
		"":                                       api.ErrShort,
		"B":                                      api.ErrShort,
		"BK":                                     api.ErrShort,
		"BK\x01":                                 api.ErrShort,
		"BK\x01\x01":                             api.ErrShort,
		"BK\x01\x01\x80":                         api.ErrShort, // in the length
		"BK\x01\x01\x03ab":                       api.ErrShort, // in the payload
		"BK\x01\x01\x03abc":                      api.ErrShort, // before the checksum
		"BK\x01\x01\x03abc\x00\x00\x00":          api.ErrShort, // in the checksum
		"x":                                      api.ErrForm,
		"b":                                      api.ErrForm,
		"K":                                      api.ErrForm,
		"KB\x01\x01":                             api.ErrForm,
		"Bx":                                     api.ErrForm,
		"Bk":                                     api.ErrForm,
		"BB":                                     api.ErrForm,
		"Bx\x00\x00":                             api.ErrForm, // before ErrArg
		"\x00BK\x01\x01":                         api.ErrForm,
		"BK\x00":                                 api.ErrArg,
		"BK\x04":                                 api.ErrArg,
		"BK\xff":                                 api.ErrArg,
		"BK\x00\x01":                             api.ErrArg,
		"BK\x01\x00":                             api.ErrArg,
		"BK\x03\x05":                             api.ErrArg,
		"BK\x03\xff":                             api.ErrArg,
		"BK\x04\x01\x80\x00":                     api.ErrArg, // before the error of the length
		"BK\x01\x05\xf1\x2e":                     api.ErrArg,
		"BK\x01\x01\x80\x00":                     api.ErrForm, // a last group of 0
		"BK\x01\x01\x83\x00abc":                  api.ErrForm,
		"BK\x01\x01" + huge + "\x00":             api.ErrLarge,
		"BK\x01\x01\xf1\x2e":                     api.ErrLarge, // 6001, before ErrShort
		"BK\x01\x01\x80\x80\x01":                 api.ErrLarge,
		"BK\x01\x01\xff\xff\x7f" + "abc":         api.ErrLarge,
		"BK\x01\x01\xf0\x2e":                     api.ErrShort, // 6000
		"BK\x01\x01" + strings.Repeat("\x80", 9): api.ErrShort,
		"BK\x01\x01" + strings.Repeat("\x80", 9) + "\x02": api.ErrForm, // 2^64
		"BK\x01\x01" + strings.Repeat("\x80", 10):         api.ErrForm,
		"BK\x01\x01" + prim.Number(math.MaxUint64):        api.ErrLarge,
		"BK\x01\x01" + prim.Number(math.MaxInt64):         api.ErrLarge,
		"BK\x01\x01" + prim.Number(1<<32):                 api.ErrLarge, // 0 in its lower half
		"BK\x01\x01\x03abc\x00\x00\x00\x00":               api.ErrSum,
	} {
		expectError(t, s, want)
	}
	// A payload that is too long, with all its bytes and the right checksum.
	expectError(t, withSum("BK\x01\x01\xf1\x2e"+strings.Repeat("a", 6001)), api.ErrLarge)
	// A length that is longer than needed, with the right checksum.
	expectError(t, withSum("BK\x01\x01\x83\x00abc"), api.ErrForm)
}

// Every change of a single bit is found: which error it is depends on its place.
func TestDecodeChangedBits(t *testing.T) {
	s := mustEncode(t, api.Frame{Version: 2, Kind: api.KDelta, Payload: "payload"})
	for i := range len(s) {
		for bit := range 8 {
			b := []byte(s)
			b[i] ^= 1 << bit
			_, _, e := Decode(string(b))
			switch {
			case e == api.OK:
				t.Errorf("bit %d of byte %d may change", bit, i)
			case i < 2 && e != api.ErrForm, i > 4 && e != api.ErrSum:
				t.Errorf("bit %d of byte %d: error %d", bit, i, e)
			case (i == 2 || i == 3) && e != api.ErrArg && e != api.ErrSum:
				t.Errorf("bit %d of byte %d: error %d", bit, i, e)
			}
		}
	}
	swapped := []byte(s)
	swapped[len(s)-1], swapped[len(s)-4] = swapped[len(s)-4], swapped[len(s)-1]
	expectError(t, string(swapped), api.ErrSum)
	// The checksum of the payload alone, and that of another frame.
	expectError(t, s[:len(s)-4]+withSum("payload")[7:], api.ErrSum)
	expectError(t, s[:len(s)-4]+mustEncode(t, api.Frame{Version: 1, Kind: 2, Payload: "payload"})[len(s)-4:], api.ErrSum)
}

// decodeByRule follows the chapter's sentence on Decode, byte by byte.
func decodeByRule(s string) (api.Frame, int, api.Errno) {
	for i, valid := range []string{"B", "K", "\x01\x02\x03", "\x01\x02\x03\x04"} {
		if i == len(s) {
			return api.Frame{}, 0, api.ErrShort
		}
		if strings.IndexByte(valid, s[i]) < 0 {
			return api.Frame{}, 0, []api.Errno{api.ErrForm, api.ErrForm, api.ErrArg, api.ErrArg}[i]
		}
	}
	n, k, e := prim.ReadNumber(s[4:])
	if e != api.OK {
		return api.Frame{}, 0, e
	}
	if n > 6000 {
		return api.Frame{}, 0, api.ErrLarge
	}
	rest := s[4+k:]
	if uint64(len(rest)) < n+4 {
		return api.Frame{}, 0, api.ErrShort
	}
	whole := s[:4+k+int(n)+4]
	if withSum(whole[:len(whole)-4]) != whole {
		return api.Frame{}, 0, api.ErrSum
	}
	return api.Frame{Version: int(s[2]), Kind: int(s[3]), Payload: rest[:n]}, len(whole), api.OK
}

// inputs holds byte strings for Decode: valid frames, damaged ones, and any bytes.
func inputs() []string {
	r := rand.New(rand.NewSource(2))
	var all []string
	for range 20000 {
		b := make([]byte, r.Intn(20))
		r.Read(b)
		s := "BK" + string([]byte{byte(r.Intn(5)), byte(r.Intn(6))}) + prim.Number(uint64(r.Intn(24))) + string(b)
		switch r.Intn(4) {
		case 0:
			s = withSum("BK\x03\x02" + prim.Number(uint64(len(b))) + string(b))
		case 1:
			s = withSum(s)
		case 2:
			s = s[r.Intn(3):]
		}
		if r.Intn(3) == 0 {
			c := []byte(s)
			c[r.Intn(len(c))] = byte(r.Intn(256))
			s = string(c)
		}
		if r.Intn(3) == 0 {
			s = s[:r.Intn(len(s)+1)]
		}
		all = append(all, s)
	}
	return all
}

func TestDecodeByRule(t *testing.T) {
	seen := map[api.Errno]int{}
	for _, s := range inputs() {
		f, n, e := Decode(s)
		if wf, wn, we := decodeByRule(s); f != wf || n != wn || e != we {
			t.Errorf("Decode(%q) = %v, %d, %d, want %v, %d, %d", s, f, n, e, wf, wn, we)
		}
		if e == api.OK && mustEncode(t, f) != s[:n] {
			t.Errorf("Decode(%q) reads %v, which has another encoding", s, f)
		}
		seen[e]++
	}
	for _, e := range []api.Errno{api.OK, api.ErrArg, api.ErrLarge, api.ErrShort, api.ErrForm, api.ErrSum} {
		if seen[e] == 0 {
			t.Errorf("no input has the result %d", e)
		}
	}
}

// P1

func TestNothingPanics(t *testing.T) {
	defer func() {
		if p := recover(); p != nil {
			t.Error(p)
		}
	}()
	for a := range 256 {
		for b := range 256 {
			Decode(string([]byte{byte(a), byte(b)}))
			Decode("BK" + string([]byte{byte(a), byte(b)}))
			Decode("BK\x01\x01" + string([]byte{byte(a), byte(b)}))
		}
	}
	for _, s := range []string{strings.Repeat("\x80", 1<<20), "BK\x01\x01" + strings.Repeat("\x80", 1<<20), strings.Repeat("BK\x01\x01\x00", 1<<16)} {
		Decode(s)
		Encode(api.Frame{Version: 1, Kind: 1, Payload: s})
	}
	Encode(api.Frame{Version: math.MinInt, Kind: math.MaxInt})
}

// P2 (package rules tests that results share no memory with arguments)

func TestResultsDependOnArgumentsOnly(t *testing.T) {
	type result struct {
		f     api.Frame
		n     int
		e     api.Errno
		bytes string
	}
	run := func(s string) (r result) {
		r.f, r.n, r.e = Decode(s)
		r.bytes, _ = Encode(api.Frame{Version: 1 + len(s)%3, Kind: 1 + len(s)%4, Payload: s})
		return r
	}
	all := inputs()
	first := make([]result, len(all))
	for i, s := range all {
		first[i] = run(s)
	}
	for i := len(all) - 1; i >= 0; i-- {
		if again := run(all[i]); again != first[i] {
			t.Errorf("%q: first %v, then %v", all[i], first[i], again)
		}
	}
}

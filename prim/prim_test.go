package prim

import (
	"hash/crc32"
	"math"
	"math/big"
	"math/rand"
	"strings"
	"testing"
	"unicode/utf8"

	"bracken/api"
)

// numbers holds numbers at the edges of every length of a varint.
func numbers() []uint64 {
	all := []uint64{0, 1, 2, 3, 300, math.MaxInt64, math.MaxUint64, math.MaxUint64 - 1}
	for bit := range 64 {
		all = append(all, 1<<bit-1, 1<<bit, 1<<bit+1)
	}
	return all
}

// inputs holds byte strings for the functions that read: all of up to two bytes, and longer ones near the edges.
func inputs() []string {
	all := []string{""}
	for a := range 256 {
		all = append(all, string([]byte{byte(a)}))
		for b := range 256 {
			all = append(all, string([]byte{byte(a), byte(b)}))
		}
	}
	for length := range 13 {
		for _, fill := range []string{"\x80", "\x81", "\xff"} {
			for last := range 256 {
				all = append(all, strings.Repeat(fill, length)+string([]byte{byte(last)})+"tail")
			}
			all = append(all, strings.Repeat(fill, length))
		}
	}
	r := rand.New(rand.NewSource(1))
	for range 20000 {
		b := make([]byte, r.Intn(24))
		for i := range b {
			b[i] = byte(r.Intn(256))
			if r.Intn(2) == 0 {
				b[i] |= 128
			}
		}
		if r.Intn(2) == 0 && len(b) > 0 {
			b[0] = byte(r.Intn(19)) // a length near the limit of texts
		}
		all = append(all, string(b))
	}
	return all
}

// readByRule follows the chapter's sentence on ReadNumber byte by byte, with numbers of any size.
func readByRule(s string) (uint64, int, api.Errno) {
	limit := new(big.Int).Lsh(big.NewInt(1), 64)
	value := new(big.Int)
	for i := 0; ; i++ {
		if i == len(s) {
			return 0, 0, api.ErrShort
		}
		group := big.NewInt(int64(s[i] % 128))
		value.Add(value, group.Lsh(group, uint(7*i)))
		last := s[i] < 128
		if i == 9 && !last || value.Cmp(limit) >= 0 || last && i > 0 && s[i] == 0 {
			return 0, 0, api.ErrForm
		}
		if last {
			return value.Uint64(), i + 1, api.OK
		}
	}
}

// P3

func TestNumberExamples(t *testing.T) {
	for n, want := range map[uint64]string{
		0:                  "\x00",
		1:                  "\x01",
		127:                "\x7f",
		128:                "\x80\x01",
		300:                "\xac\x02",
		16383:              "\xff\x7f",
		16384:              "\x80\x80\x01",
		math.MaxInt64:      "\xff\xff\xff\xff\xff\xff\xff\xff\x7f",
		1 << 63:            "\x80\x80\x80\x80\x80\x80\x80\x80\x80\x01",
		math.MaxUint64 - 1: "\xfe\xff\xff\xff\xff\xff\xff\xff\xff\x01",
		math.MaxUint64:     "\xff\xff\xff\xff\xff\xff\xff\xff\xff\x01",
	} {
		if got := Number(n); got != want {
			t.Errorf("Number(%d) = %q, want %q", n, got, want)
		}
	}
}

func TestNumberIsRead(t *testing.T) {
	for _, n := range numbers() {
		s := Number(n)
		for _, tail := range []string{"", "\x00", "\x80", "tail"} {
			if m, k, e := ReadNumber(s + tail); m != n || k != len(s) || e != api.OK {
				t.Errorf("ReadNumber(Number(%d) + %q) = %d, %d, %d", n, tail, m, k, e)
			}
		}
		for end := range len(s) {
			if m, k, e := ReadNumber(s[:end]); m != 0 || k != 0 || e != api.ErrShort {
				t.Errorf("ReadNumber(%q) = %d, %d, %d, want ErrShort", s[:end], m, k, e)
			}
		}
	}
}

func TestReadNumberErrors(t *testing.T) {
	high := func(n int) string { return strings.Repeat("\x80", n) }
	for s, want := range map[string]api.Errno{
		"":                 api.ErrShort,
		"\x80":             api.ErrShort,
		high(9):            api.ErrShort,
		"\x80\x00":         api.ErrForm, // a last group of 0
		"\xff\x00":         api.ErrForm,
		"\x80\x80\x00":     api.ErrForm,
		high(9) + "\x00":   api.ErrForm,
		high(9) + "\x02":   api.ErrForm, // 2^64
		high(9) + "\x7f":   api.ErrForm,
		high(9) + "\x82":   api.ErrForm, // too large already, whatever follows
		high(10):           api.ErrForm, // an eleventh byte is announced
		high(9) + "\x81":   api.ErrForm,
		high(10) + "\x00":  api.ErrForm,
		high(10) + "\x01":  api.ErrForm,
		high(100):          api.ErrForm,
		high(8) + "\x00z":  api.ErrForm,
		high(9) + "\xffzz": api.ErrForm,
	} {
		if n, k, e := ReadNumber(s); n != 0 || k != 0 || e != want {
			t.Errorf("ReadNumber(%q) = %d, %d, %d, want error %d", s, n, k, e, want)
		}
	}
}

func TestReadNumberByRule(t *testing.T) {
	for _, s := range inputs() {
		n, k, e := ReadNumber(s)
		if wn, wk, we := readByRule(s); n != wn || k != wk || e != we {
			t.Errorf("ReadNumber(%q) = %d, %d, %d, want %d, %d, %d", s, n, k, e, wn, wk, we)
		}
		if e == api.OK && Number(n) != s[:k] {
			t.Errorf("ReadNumber(%q) reads %d, which has another encoding", s, n)
		}
	}
}

// P4

func TestZigAndZag(t *testing.T) {
	for n, want := range map[int64]uint64{
		0: 0, -1: 1, 1: 2, -2: 3, 2: 4, -3: 5, 3: 6, -1000: 1999, 1000: 2000,
		math.MaxInt64:     math.MaxUint64 - 1,
		math.MinInt64:     math.MaxUint64,
		math.MinInt64 + 1: math.MaxUint64 - 2,
	} {
		if got := Zig(n); got != want {
			t.Errorf("Zig(%d) = %d, want %d", n, got, want)
		}
		if got := Zag(want); got != n {
			t.Errorf("Zag(%d) = %d, want %d", want, got, n)
		}
	}
	for _, n := range numbers() {
		if got := Zig(Zag(n)); got != n {
			t.Errorf("Zig(Zag(%d)) = %d", n, got)
		}
		if got := Zag(Zig(int64(n))); got != int64(n) {
			t.Errorf("Zag(Zig(%d)) = %d", int64(n), got)
		}
	}
}

func TestText(t *testing.T) {
	for _, s := range []string{
		"", "a", "\x00", "é", "\U0010ffff", "\ufffd", "two words",
		strings.Repeat("a", 15), strings.Repeat("a", 16), strings.Repeat("é", 8), strings.Repeat("\U0001f600", 4),
	} {
		want := string([]byte{byte(len(s))}) + s
		got, e := Text(s)
		if got != want || e != api.OK {
			t.Errorf("Text(%q) = %q, %d", s, got, e)
		}
		for _, tail := range []string{"", "\xff", "tail"} {
			if u, k, e := ReadText(got + tail); u != s || k != len(got) || e != api.OK {
				t.Errorf("ReadText(%q) = %q, %d, %d", got+tail, u, k, e)
			}
		}
		for end := range len(got) {
			if u, k, e := ReadText(got[:end]); u != "" || k != 0 || e != api.ErrShort {
				t.Errorf("ReadText(%q) = %q, %d, %d, want ErrShort", got[:end], u, k, e)
			}
		}
	}
}

// notUTF8 holds strings of at most 16 bytes that are not valid UTF-8.
func notUTF8() []string {
	return []string{
		"\xff", "\x80", "a\x80", "\xc3", "\xc3a", "\xe2\x82", "\xf0\x9f\x98",
		"\xc0\x80", "\xe0\x80\x80", // longer than needed
		"\xed\xa0\x80", "\xed\xbf\xbf", // surrogates
		"\xf4\x90\x80\x80", // above the largest code point
		strings.Repeat("a", 15) + "\xc3",
	}
}

func TestTextErrors(t *testing.T) {
	errors := map[string]api.Errno{
		strings.Repeat("a", 17):          api.ErrLarge,
		strings.Repeat("a", 1000):        api.ErrLarge,
		strings.Repeat("a", 15) + "é":    api.ErrLarge, // sixteen characters, seventeen bytes
		strings.Repeat("a", 16) + "\xff": api.ErrLarge, // before ErrForm
	}
	for _, s := range notUTF8() {
		errors[s] = api.ErrForm
	}
	for s, want := range errors {
		if got, e := Text(s); got != "" || e != want {
			t.Errorf("Text(%q) = %q, %d, want error %d", s, got, e, want)
		}
	}
}

func TestReadTextErrors(t *testing.T) {
	errors := map[string]api.Errno{
		"":                                  api.ErrShort,
		"\x80":                              api.ErrShort,
		"\x81\x00a":                         api.ErrForm, // the length has a last group of 0
		strings.Repeat("\x80", 10) + "\x01": api.ErrForm,
		"\x01":                              api.ErrShort,
		"\x02a":                             api.ErrShort,
		"\x02\xff":                          api.ErrShort, // before ErrForm
		"\x10" + strings.Repeat("a", 15):    api.ErrShort,
		"\x11":                              api.ErrLarge, // before ErrShort
		"\x11" + strings.Repeat("a", 17):    api.ErrLarge,
		Number(1<<32) + "a":                 api.ErrLarge,
		Number(1<<63) + "a":                 api.ErrLarge,
		Number(math.MaxUint64) + "a":        api.ErrLarge,
	}
	for _, s := range notUTF8() {
		errors[Number(uint64(len(s)))+s+"tail"] = api.ErrForm
	}
	for s, want := range errors {
		if got, k, e := ReadText(s); got != "" || k != 0 || e != want {
			t.Errorf("ReadText(%q) = %q, %d, %d, want error %d", s, got, k, e, want)
		}
	}
	// A character that the length divides is invalid, whatever follows.
	if _, _, e := ReadText("\x01é"); e != api.ErrForm {
		t.Errorf("ReadText of half a character: %d", e)
	}
}

func TestReadTextByRule(t *testing.T) {
	for _, s := range inputs() {
		want, wk := "", 0
		n, k, we := readByRule(s)
		switch {
		case we != api.OK:
		case n > 16:
			we = api.ErrLarge
		case uint64(len(s)-k) < n:
			we = api.ErrShort
		case !utf8.ValidString(s[k : k+int(n)]):
			we = api.ErrForm
		default:
			want, wk = s[k:k+int(n)], k+int(n)
		}
		got, gk, ge := ReadText(s)
		if got != want || gk != wk || ge != we {
			t.Errorf("ReadText(%q) = %q, %d, %d, want %q, %d, %d", s, got, gk, ge, want, wk, we)
		}
		if u, e := Text(got); ge == api.OK && (u != s[:gk] || e != api.OK) {
			t.Errorf("ReadText(%q) reads %q, which has another encoding", s, got)
		}
	}
}

// P5

// sumByRule follows the chapter bit by bit.
func sumByRule(s string) uint32 {
	register := uint32(math.MaxUint32)
	for i := range len(s) {
		register ^= uint32(s[i])
		for range 8 {
			if register%2 == 1 {
				register = register/2 ^ 0xedb88320
			} else {
				register /= 2
			}
		}
	}
	return math.MaxUint32 - register
}

func TestSum(t *testing.T) {
	for s, want := range map[string]uint32{
		"":          0,
		"\x00":      0xd202ef8d,
		"a":         0xe8b7be43,
		"abc":       0x352441c2,
		"123456789": 0xcbf43926,
	} {
		if got := Sum(s); got != want {
			t.Errorf("Sum(%q) = %x, want %x", s, got, want)
		}
	}
}

func TestSumByRule(t *testing.T) {
	all := []string{strings.Repeat("\x00", 6000), strings.Repeat("\xff", 6000), strings.Repeat("bracken", 1000)}
	for a := range 256 {
		all = append(all, string([]byte{byte(a)}), string([]byte{0, byte(a), 255}))
	}
	r := rand.New(rand.NewSource(2))
	for range 500 {
		b := make([]byte, r.Intn(100))
		r.Read(b)
		all = append(all, string(b))
	}
	for _, s := range all {
		got := Sum(s)
		if want := sumByRule(s); got != want {
			t.Errorf("Sum(%q) = %x, want %x", s, got, want)
		}
		if want := crc32.ChecksumIEEE([]byte(s)); got != want {
			t.Errorf("Sum(%q) = %x, the library has %x", s, got, want)
		}
	}
}

// P1

func TestNothingPanics(t *testing.T) {
	defer func() {
		if p := recover(); p != nil {
			t.Error(p)
		}
	}()
	for _, n := range numbers() {
		Number(n)
		Zig(int64(n))
		Zag(n)
	}
	for _, s := range append(inputs(), strings.Repeat("\x80", 1<<20), strings.Repeat("a", 1<<20)) {
		ReadNumber(s)
		Text(s)
		ReadText(s)
		Sum(s)
	}
}

// P2 (package rules tests that results share no memory with arguments)

func TestResultsDependOnArgumentsOnly(t *testing.T) {
	type result struct {
		number, text, read string
		value              uint64
		length, used       int
		errors             [3]api.Errno
		sum                uint32
	}
	run := func(s string) (r result) {
		r.value, r.length, r.errors[0] = ReadNumber(s)
		r.number = Number(r.value + uint64(len(s)))
		r.text, r.errors[1] = Text(s)
		r.read, r.used, r.errors[2] = ReadText(s)
		r.sum = Sum(s)
		return r
	}
	all := inputs()
	first := make([]result, len(all))
	for i, s := range all {
		first[i] = run(s)
	}
	for i := len(all) - 1; i >= 0; i-- {
		if again := run(all[i]); again != first[i] {
			t.Errorf("%q: first %v, then %v", all[i], first[i], again)
		}
	}
}

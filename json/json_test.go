package json

import (
	library "encoding/json"
	"fmt"
	"maps"
	"math"
	"math/rand"
	"reflect"
	"slices"
	"strings"
	"testing"
	"unicode/utf8"

	"bracken/api"
	"bracken/state"
)

// sample returns a state whose form shows every field, with escapes in every text.
func sample() api.State {
	return api.State{
		Rev: 300,
		Jobs: []api.Job{
			{Name: "\n", Prio: -5, Need: 3, Tries: 1, Tag: `"red"`},
			{Name: `b\`, Need: 4},
			{Name: "é", Prio: 1000, Need: 1000000, Tries: 100, Tag: "\x7f"},
		},
		Nodes: []api.Node{
			{Name: `m"`, Room: 8, Zone: `:,[{}]\`},
			{Name: "n", Room: 200, Zone: "\x1f\x00"},
		},
		Leases: []api.Lease{
			{Job: "\n", Node: "n", Until: 128},
			{Job: `b\`, Node: `m"`},
		},
	}
}

// sampleForm is the form of sample.
const sampleForm = `{"rev":300,"jobs":[` +
	`{"name":"\u000a","prio":-5,"need":3,"tries":1,"tag":"\"red\""},` +
	`{"name":"b\\","prio":0,"need":4,"tries":0,"tag":""},` +
	`{"name":"é","prio":1000,"need":1000000,"tries":100,"tag":"` + "\x7f" + `"}],"nodes":[` +
	`{"name":"m\"","room":8,"zone":":,[{}]\\"},` +
	`{"name":"n","room":200,"zone":"\u001f\u0000"}],"leases":[` +
	`{"job":"\u000a","node":"n","until":128},` +
	`{"job":"b\\","node":"m\"","until":0}]}`

// emptyForm is the form of the empty state.
const emptyForm = `{"rev":0,"jobs":[],"nodes":[],"leases":[]}`

// full returns a state with as many rows as there may be, with the largest numbers and with texts that fill repeats.
func full(fill string) api.State {
	text := strings.Repeat(fill, 16/len(fill))
	name := func(i int) string { return text[:12] + fmt.Sprintf("%04d", i) }
	s := api.State{Rev: api.MaxTime}
	for i := range api.MaxJobs {
		s.Jobs = append(s.Jobs, api.Job{Name: name(i), Prio: -1000, Need: 500000, Tries: 100, Tag: text})
		s.Leases = append(s.Leases, api.Lease{Job: name(i), Node: name(i / 2), Until: 1 << 40})
	}
	for i := range api.MaxNodes {
		s.Nodes = append(s.Nodes, api.Node{Name: name(i), Room: 1000000, Zone: text})
	}
	return s
}

// longest returns a state whose form is nearly as long as that of a state can be: every byte of its texts has an escape.
func longest() api.State {
	s := full("\x01")
	name := func(i int) string { return strings.Repeat("\x01", 14) + string([]byte{byte(i / 32), byte(i % 32)}) }
	for i := range s.Jobs {
		s.Jobs[i].Name, s.Leases[i].Job, s.Leases[i].Node = name(i), name(i), name(i/2)
	}
	for i := range s.Nodes {
		s.Nodes[i].Name = name(i)
	}
	return s
}

// invalid returns states that are not valid, by their errors.
func invalid() map[api.Errno]api.State {
	arg, form, none, order, room := sample(), sample(), sample(), sample(), sample()
	arg.Rev = -1
	form.Jobs[0].Tag = strings.Repeat("x", 17)
	none.Leases[0].Node = "y"
	order.Nodes[1].Name = `m"`
	room.Nodes[0].Room = 3
	return map[api.Errno]api.State{
		api.ErrArg: arg, api.ErrLarge: {Jobs: make([]api.Job, 41)}, api.ErrForm: form,
		api.ErrNone: none, api.ErrOrder: order, api.ErrRoom: room,
	}
}

// equal reports whether two states are equal; a nil slice equals an empty one.
func equal(a, b api.State) bool {
	return a.Rev == b.Rev && slices.Equal(a.Jobs, b.Jobs) && slices.Equal(a.Nodes, b.Nodes) && slices.Equal(a.Leases, b.Leases)
}

// wantForm checks that Print and Parse lead from s to form and back.
func wantForm(t *testing.T, s api.State, form string) {
	t.Helper()
	if p, e := Print(s); p != form || e != api.OK {
		t.Errorf("Print(%+v) = %s, %d, want %s", s, p, e, form)
	}
	if p, e := Parse(form); !equal(p, s) || e != api.OK {
		t.Errorf("Parse(%q) = %+v, %d, want %+v", form, p, e, s)
	}
}

// wantError checks that Parse returns an error and nothing else.
func wantError(t *testing.T, form string, want api.Errno) {
	t.Helper()
	if s, e := Parse(form); !equal(s, api.State{}) || e != want {
		t.Errorf("Parse(%q) = %+v, %d, want error %d", form, s, e, want)
	}
}

// P15

// quoteByRule follows the chapter, byte by byte.
func quoteByRule(s string) string {
	quoted := ""
	for i := range len(s) {
		switch {
		case s[i] == 34:
			quoted += "\\\""
		case s[i] == 92:
			quoted += "\\\\"
		case s[i] < 32:
			quoted += fmt.Sprintf("\\u%04x", s[i])
		default:
			quoted += s[i : i+1]
		}
	}
	return "\"" + quoted + "\""
}

func TestQuote(t *testing.T) {
	for s, want := range map[string]string{
		"":                  `""`,
		"a":                 `"a"`,
		"two words":         `"two words"`,
		`"`:                 `"\""`,
		`\`:                 `"\\"`,
		`\"`:                `"\\\""`,
		`\n`:                `"\\n"`,
		`\u000a`:            `"\\u000a"`,
		"\n":                `"\u000a"`,
		"\t\r\b\f":          `"\u0009\u000d\u0008\u000c"`,
		"\x00":              `"\u0000"`,
		"\x0f\x10\x1f":      `"\u000f\u0010\u001f"`,
		" ":                 `" "`,
		"/<>&'":             `"/<>&'"`,
		"\x7f":              "\"\x7f\"",
		"é\u2028\U0010ffff": "\"é\u2028\U0010ffff\"",
		"\x80\xff\xc3":      "\"\x80\xff\xc3\"",
		"\xed\xa0\x80\x01":  "\"\xed\xa0\x80\\u0001\"",
		"a\"\\\n":           `"a\"\\\u000a"`,
	} {
		if got := Quote(s); got != want {
			t.Errorf("Quote(%q) = %s, want %s", s, got, want)
		}
	}
}

func TestQuoteByRule(t *testing.T) {
	var all []string
	for a := range 256 {
		all = append(all, string([]byte{byte(a)}))
		for b := range 256 {
			all = append(all, string([]byte{byte(a), byte(b)}))
		}
	}
	r := rand.New(rand.NewSource(1))
	for range 2000 {
		b := make([]byte, r.Intn(100))
		r.Read(b)
		all = append(all, string(b))
	}
	for _, s := range all {
		got := Quote(s)
		if want := quoteByRule(s); got != want {
			t.Errorf("Quote(%q) = %s, want %s", s, got, want)
		}
		// Quoted strings are JSON, as far as the strings are texts.
		var back string
		if err := library.Unmarshal([]byte(got), &back); utf8.ValidString(s) && (err != nil || back != s) {
			t.Errorf("Quote(%q) = %s, which the library reads as %q, %v", s, got, back, err)
		}
	}
}

func TestQuoteLong(t *testing.T) {
	// There is no limit to what is quoted.
	for s, want := range map[string]string{"x": "x", "\x1e": `\u001e`, `"`: `\"`} {
		if got := Quote(strings.Repeat(s, 100000)); got != `"`+strings.Repeat(want, 100000)+`"` {
			t.Errorf("Quote of 100000 times %q has %d bytes", s, len(got))
		}
	}
}

// P16

func TestForms(t *testing.T) {
	wantForm(t, api.State{}, emptyForm)
	wantForm(t, api.State{Jobs: []api.Job{}, Nodes: []api.Node{}, Leases: []api.Lease{}}, emptyForm)
	wantForm(t, sample(), sampleForm)
	for form, s := range map[string]api.State{
		`{"rev":1099511627776,"jobs":[],"nodes":[],"leases":[]}`: {Rev: 1 << 40},
		`{"rev":0,"jobs":[{"name":"j","prio":-1000,"need":1,"tries":2,"tag":"t"}],"nodes":[],"leases":[]}`: {
			Jobs: []api.Job{{Name: "j", Prio: -1000, Need: 1, Tries: 2, Tag: "t"}}},
		`{"rev":0,"jobs":[],"nodes":[{"name":"n","room":1000000,"zone":"z"}],"leases":[]}`: {
			Nodes: []api.Node{{Name: "n", Room: 1000000, Zone: "z"}}},
		`{"rev":0,"jobs":[{"name":"x","prio":0,"need":0,"tries":0,"tag":""}],"nodes":[{"name":"x","room":0,"zone":""}],"leases":[{"job":"x","node":"x","until":1099511627776}]}`: {
			Jobs: []api.Job{{Name: "x"}}, Nodes: []api.Node{{Name: "x"}}, Leases: []api.Lease{{Job: "x", Node: "x", Until: 1 << 40}}},
	} {
		wantForm(t, s, form)
	}
}

// Texts that look like other parts of a form, or are at the limits.
func TestTexts(t *testing.T) {
	for _, text := range []string{
		":", ",", "{", "}", "[", "]", `"`, `\`, `\\`, `\"`, `"\`, `","prio":7`, `"}],"nodes":[`, `\u0041`, `\n`, "u0041", "null", "0", "-1", " ", "/",
		"\x00", "\x01\x02", "\x1f", "\x20", "\x7f", "é", "\ufffd", "\u2028", "\U0010ffff",
		strings.Repeat("\x00", 16), strings.Repeat(`"`, 16), strings.Repeat(`\`, 16), strings.Repeat("é", 8), strings.Repeat(`\u0000`, 2),
	} {
		q := quoteByRule(text)
		wantForm(t, api.State{
			Jobs:   []api.Job{{Name: text, Tag: text}},
			Nodes:  []api.Node{{Name: text, Zone: text}},
			Leases: []api.Lease{{Job: text, Node: text}},
		}, `{"rev":0,"jobs":[{"name":`+q+`,"prio":0,"need":0,"tries":0,"tag":`+q+`}],"nodes":[{"name":`+q+`,"room":0,"zone":`+q+`}],"leases":[{"job":`+q+`,"node":`+q+`,"until":0}]}`)
	}
}

func TestFull(t *testing.T) {
	for _, fill := range []string{"x", "é", `"`, "\x01"} {
		wantForm(t, full(fill), formByRule(full(fill)))
	}
	s := longest()
	form := formByRule(s)
	wantForm(t, s, form)
	// Longer than api.MaxJSON, which the document does not mention.
	if len(form) <= api.MaxJSON || len(form) > 60000 {
		t.Errorf("the longest form has %d bytes", len(form))
	}
}

func TestPrintErrors(t *testing.T) {
	for want, s := range invalid() {
		if form, e := Print(s); form != "" || e != want {
			t.Errorf("Print(%+v) = %q, %d, want %d", s, form, e, want)
		}
	}
	for i, s := range []api.State{
		{Rev: math.MinInt}, {Rev: 1<<40 + 1},
		{Jobs: []api.Job{{Name: "a", Prio: -1001}}},
		{Leases: []api.Lease{{}}},
		{Rev: -1, Jobs: make([]api.Job, 41)},
		{Jobs: []api.Job{{Name: "\xff"}}},
	} {
		if form, e := Print(s); form != "" || e != state.Check(s) || e == api.OK {
			t.Errorf("state %d: Print = %q, %d, want %d", i, form, e, state.Check(s))
		}
	}
}

func TestParseLarge(t *testing.T) {
	for _, unit := range []string{" ", "0", "{", "[", `"`, `\`, ":", `{"rev":`, "\xff", "\x00"} {
		long := strings.Repeat(unit, 70000)
		for size, want := range map[int]api.Errno{59999: api.ErrForm, 60000: api.ErrForm, 60001: api.ErrLarge, 70000: api.ErrLarge} {
			wantError(t, long[:size], want)
			wantError(t, emptyForm+long[:size-len(emptyForm)], want)
			wantError(t, `{"rev":`+long[:size-len(emptyForm)]+strings.TrimPrefix(emptyForm, `{"rev":`), want)
		}
	}
}

func TestParsePrefixes(t *testing.T) {
	for _, form := range []string{emptyForm, sampleForm, formByRule(full("x"))} {
		for end := range len(form) {
			wantError(t, form[:end], api.ErrForm)
			wantError(t, form[len(form)-end:], api.ErrForm)
		}
		for _, more := range []string{" ", "\n", "\x00", "}", ",", "]", "{", "0", "x", form} {
			wantError(t, form+more, api.ErrForm)
			wantError(t, more+form, api.ErrForm)
		}
	}
}

// change is a part of sampleForm and what it is replaced by, once.
type change struct {
	old, new string
}

// wantForms checks that sampleForm is a form no more after each change.
func wantForms(t *testing.T, changes []change) {
	t.Helper()
	for _, c := range changes {
		if !strings.Contains(sampleForm, c.old) {
			t.Fatalf("%s is no part of the form", c.old)
		}
		wantError(t, strings.Replace(sampleForm, c.old, c.new, 1), api.ErrForm)
	}
}

func TestParseNumbers(t *testing.T) {
	var changes []change
	for _, n := range []string{
		"", "-", "--5", "- 5", "+5", "05", "-05", "00", "-0", "5.0", "5.", ".5", "5e0", "5E0", "0x5", "5_0", "5 ", " 5", "5-", "5-5", "٥",
		`"5"`, "null", "true", "NaN", "[5]", "{}", "5,5",
		"4611686018427387904", "9223372036854775807", "9223372036854775808", "-9223372036854775808", "-9223372036854775809",
		"18446744073709551616", "18446744073709551621", strings.Repeat("5", 500), strings.Repeat("0", 500) + "5", "1e99999",
	} {
		for _, old := range []string{`"rev":300`, `"prio":-5`, `"need":3`, `"tries":1`, `"room":8`, `"until":128`} {
			name, _, _ := strings.Cut(old, ":")
			changes = append(changes, change{old, name + ":" + n})
		}
	}
	wantForms(t, changes)
}

func TestParseStrings(t *testing.T) {
	wantForms(t, []change{
		// Other forms of the same string.
		{`\u000a`, `\n`}, {`\u000a`, `\u000A`}, {`\u000a`, `\U000a`}, {`\u000a`, "\n"}, {`\u000a`, `\x0a`}, {`\u000a`, `\12`},
		{`\u001f`, `\u001F`}, {`\u001f`, "\x1f"}, {`\u0000`, "\x00"}, {`\u0000`, `\0`}, {`\u0000`, `\u000`},
		{`\"red\"`, `\u0022red\"`}, {`b\\`, `b\u005c`}, {`b\\`, `\u0062\\`}, {`b\\`, `\b\\`}, {"é", `\u00e9`}, {"é", `\u00c3\u00a9`}, {"\x7f", `\u007f`},
		{`:,[{}]`, `\:,[{}]`}, {`"n"`, `"\n"`}, {`"n"`, `"\u006e"`}, {`"n"`, `'n'`}, {`"n"`, `n`}, {`"n"`, `"n`}, {`"n"`, `n"`}, {`"n"`, `""n"`},
		// Escapes that are incomplete or none.
		{`\u000a`, `\`}, {`\u000a`, `\u`}, {`\u000a`, `\u0`}, {`\u000a`, `\u00`}, {`\u000a`, `\u00g0`}, {`\u000a`, `\u+00a`}, {`\u000a`, `\u-00a`},
		{`\u000a`, `\u0x0a`}, {`\u000a`, `\u0_0a`}, {`\u000a`, `\u 00a`}, {`\u000a`, `\u010a`}, {`\u000a`, `\u100a`}, {`\u000a`, `\u0020`}, {`\u000a`, `\a`},
		{`b\\`, `b\`}, {`\"red\"`, `"red"`}, {`\"red\"`, `\"red\`}, {`\"red\"`, `\"red"`},
		// Strings that are no names or notes.
		{`"é"`, `""`}, {"é", "\xc3"}, {"é", "\xff"}, {"é", "\xed\xa0\x80"}, {"é", strings.Repeat("x", 17)}, {`"tag":""`, `"tag":"` + strings.Repeat("x", 17) + `"`},
		{`"tag":""`, `"tag":"` + "\xff" + `"`}, {`"tag":""`, `"tag":null`}, {`"tag":""`, `"tag":0`}, {`"tag":""`, `"tag":`}, {`"tag":""`, `"tag":"`},
		{`\u001f`, "\xc0\x80"}, {`\u001f`, strings.Repeat(`\u001f`, 16)},
	})
	// An escape at the very end of the text.
	for _, end := range []string{`\`, `\u`, `\u0`, `\u00`, `\u000`, `\u000a`, `\"`, `\\`} {
		wantError(t, `{"rev":0,"jobs":[{"name":"`+end, api.ErrForm)
	}
}

func TestParseStructure(t *testing.T) {
	changes := []change{
		// Names of fields.
		{`"rev"`, `"Rev"`}, {`"rev"`, `rev`}, {`"rev"`, `"rev" `}, {`"rev"`, `"re\u0076"`}, {`"rev":300,`, ``}, {`"rev":300,`, `"rev":300,"rev":300,`},
		{`"rev":300,`, `"rev":300,"more":0,`}, {`"rev":300,`, `"":300,`}, {`"rev":300,`, `300,`}, {`"rev":300,`, `"rev"300,`}, {`"rev":300,`, `"rev"::300,`},
		{`"jobs"`, `"nodes"`}, {`"nodes"`, `"jobs"`}, {`"leases"`, `"lease"`}, {`"need":3,"tries":1`, `"tries":1,"need":3`},
		{`"tries":1,`, ``}, {`,"tag":""`, ``}, {`,"zone":":,[{}]\\"`, ``}, {`,"until":128`, ``}, {`"until":128`, `"until":128,"more":0`},
		{`"job":"\u000a","node":"n"`, `"node":"n","job":"\u000a"`}, {`"name":"n",`, ``}, {`{"name":"n"`, `{"job":"n"`},
		// Brackets, braces and commas.
		{`300,`, `300`}, {`300,`, `300,,`}, {`300,`, `300;`}, {`"jobs":[`, `"jobs":`}, {`"jobs":[`, `"jobs":[[`}, {`"jobs":[`, `"jobs":[,`}, {`"jobs":[`, `"jobs":{`},
		{`},{`, `}{`}, {`},{`, `},,{`}, {`},{`, `},{},{`}, {`},{`, `},null,{`}, {`},{`, `,{`}, {`},{`, `},`}, {`},{`, `}],[{`},
		{`}],"nodes"`, `},],"nodes"`}, {`}],"nodes"`, `],"nodes"`}, {`}],"nodes"`, `},"nodes"`}, {`}],"nodes"`, `}]"nodes"`}, {`}],"nodes"`, `}}],"nodes"`},
		{`}],"leases":[`, `}]}"leases":[`}, {`0}]}`, `0}]`}, {`0}]}`, `0}}`}, {`0}]}`, `0]}`}, {`0}]}`, `0}],}`}, {`0}]}`, `0}]}}`},
	}
	for _, space := range []string{" ", "\t", "\n", "\r", "\v", "\u00a0", "\ufeff", "\x00", "/**/"} {
		for _, at := range []string{`{"rev":`, `300,`, `"jobs":[`, `{"name":`, `"prio":`, `,"need":`, `},`, `],"nodes":`, `,"room":`, `"leases":`, `,"until":`, `0}]}`} {
			changes = append(changes, change{at, space + at}, change{at, at[:1] + space + at[1:]}, change{at, at + space})
		}
	}
	wantForms(t, changes)
	for _, form := range []string{
		"", " ", "{}", "[]", "null", "0", `""`, "{", "}", ":", "::::", "\x00", "\xff", `{"rev":0}`, `[` + emptyForm + `]`,
		`{"rev":0,"jobs":null,"nodes":null,"leases":null}`, `{"rev":0,"jobs":[],"nodes":[]}`, `{"rev":0,"jobs":[],"leases":[],"nodes":[]}`,
		`{"rev":0,"jobs":{},"nodes":{},"leases":{}}`, `{"rev":0,"jobs":[{}],"nodes":[],"leases":[]}`, `{"rev":0,"jobs":[[]],"nodes":[],"leases":[]}`,
		`{"rev":0,"jobs":[],"nodes":[],"leases":[],}`, `{"rev":0,"jobs":"","nodes":"","leases":""}`, `{:0,:[],:[],:[]}`, `:0:[]:[]:[]`, `{"REV":0,"JOBS":[],"NODES":[],"LEASES":[]}`,
	} {
		wantError(t, form, api.ErrForm)
	}
}

// Whatever is wrong with a state, its form is not one of a valid state.
func TestParseStatesThatAreNotValid(t *testing.T) {
	states := slices.Collect(maps.Values(invalid()))
	for _, turn := range []func(s *api.State){
		func(s *api.State) { s.Rev = 1<<40 + 1 },
		func(s *api.State) { s.Jobs[0].Prio = -1001 },
		func(s *api.State) { s.Jobs[0].Prio = 1001 },
		func(s *api.State) { s.Jobs[2].Need = 1000001 },
		func(s *api.State) { s.Jobs[2].Need = -1 },
		func(s *api.State) { s.Jobs[1].Tries = 101 },
		func(s *api.State) { s.Jobs[1].Name = "\n" },
		func(s *api.State) { s.Jobs[2].Name = "a" },
		func(s *api.State) { s.Nodes[0].Room = 1000001 },
		func(s *api.State) { s.Nodes[0].Name = "o" },
		func(s *api.State) { s.Leases[0].Until = -1 },
		func(s *api.State) { s.Leases[0].Until = 1<<40 + 1 },
		func(s *api.State) { s.Leases[0].Job = "x" },
		func(s *api.State) { s.Leases[1].Job = "\n" },
		func(s *api.State) { s.Leases[0], s.Leases[1] = s.Leases[1], s.Leases[0] },
		func(s *api.State) { s.Leases = append(s.Leases, api.Lease{Job: "é", Node: "n"}) },
	} {
		s := sample()
		turn(&s)
		states = append(states, s)
	}
	for _, s := range states {
		if state.Check(s) == api.OK {
			t.Errorf("%+v is valid", s)
		}
		wantError(t, formByRule(s), api.ErrForm)
	}
	more := full("x")
	more.Nodes = append(more.Nodes, api.Node{Name: "z"})
	wantError(t, formByRule(more), api.ErrForm)
}

// Rules for all states and all texts

// formByRule follows the chapter for a state that need not be valid.
func formByRule(s api.State) string {
	var jobs, nodes, leases []string
	for _, j := range s.Jobs {
		jobs = append(jobs, fmt.Sprintf(`{"name":%s,"prio":%d,"need":%d,"tries":%d,"tag":%s}`, quoteByRule(j.Name), j.Prio, j.Need, j.Tries, quoteByRule(j.Tag)))
	}
	for _, n := range s.Nodes {
		nodes = append(nodes, fmt.Sprintf(`{"name":%s,"room":%d,"zone":%s}`, quoteByRule(n.Name), n.Room, quoteByRule(n.Zone)))
	}
	for _, l := range s.Leases {
		leases = append(leases, fmt.Sprintf(`{"job":%s,"node":%s,"until":%d}`, quoteByRule(l.Job), quoteByRule(l.Node), l.Until))
	}
	list := func(l []string) string { return strings.Join(l, ",") }
	return fmt.Sprintf(`{"rev":%d,"jobs":[%s],"nodes":[%s],"leases":[%s]}`, s.Rev, list(jobs), list(nodes), list(leases))
}

// parseByRule reads a text with the library, which accepts more than forms; it takes the names of the fields in any case.
func parseByRule(form string) (api.State, api.Errno) {
	var s api.State
	if len(form) > 60000 {
		return api.State{}, api.ErrLarge
	}
	if library.Unmarshal([]byte(form), &s) != nil || state.Check(s) != api.OK || formByRule(s) != form {
		return api.State{}, api.ErrForm
	}
	return s, api.OK
}

// randomStates holds states that are valid or nearly so.
func randomStates() []api.State {
	r := rand.New(rand.NewSource(7))
	names := []string{"\x00", "\n", `"`, ":", "[", `\`, `\u0041`, "a", "a\x1f", "b", "{}", "é"}
	var all []api.State
	for range 3000 {
		s := api.State{Rev: r.Intn(3) * r.Intn(1<<40)}
		for _, name := range names {
			if r.Intn(4) == 0 {
				s.Jobs = append(s.Jobs, api.Job{Name: name, Prio: r.Intn(2001) - 1000, Need: r.Intn(300), Tries: r.Intn(102), Tag: names[r.Intn(len(names))]})
			}
			if r.Intn(4) == 0 {
				s.Nodes = append(s.Nodes, api.Node{Name: name, Room: r.Intn(2000), Zone: names[r.Intn(len(names))]})
			}
		}
		for _, j := range s.Jobs {
			if len(s.Nodes) > 0 && r.Intn(2) == 0 {
				s.Leases = append(s.Leases, api.Lease{Job: j.Name, Node: s.Nodes[r.Intn(len(s.Nodes))].Name, Until: r.Intn(1000)})
			}
		}
		all = append(all, s)
	}
	return all
}

func TestByRule(t *testing.T) {
	seen := map[api.Errno]int{}
	for _, s := range randomStates() {
		e := state.Check(s)
		seen[e]++
		form := formByRule(s)
		if e == api.OK {
			wantForm(t, s, form)
			continue
		}
		wantError(t, form, api.ErrForm)
		if p, f := Print(s); p != "" || f != e {
			t.Errorf("Print(%+v) = %q, %d, want error %d", s, p, f, e)
		}
	}
	for _, e := range []api.Errno{api.OK, api.ErrArg, api.ErrRoom} {
		if seen[e] < 50 {
			t.Errorf("only %d states have the result %d", seen[e], e)
		}
	}
}

// mutants returns texts that differ from a form in one byte or in a few.
func mutants(form string) []string {
	var all []string
	for i := range len(form) {
		all = append(all, form[:i]+form[i+1:])
		for _, c := range []byte("\x00\n 0159-+.aAu\"\\:,[]{}\x7f\xff") {
			all = append(all, form[:i]+string([]byte{c})+form[i:], form[:i]+string([]byte{c})+form[i+1:])
		}
	}
	r := rand.New(rand.NewSource(3))
	for range 5000 {
		i, j := r.Intn(len(form)+1), r.Intn(len(form)+1)
		k, l := r.Intn(len(form)+1), r.Intn(len(form)+1)
		all = append(all, form[:min(i, j)]+form[max(i, j):], form[:i]+form[min(k, l):max(k, l)]+form[j:])
	}
	return all
}

func TestMutantsByRule(t *testing.T) {
	seen := map[api.Errno]int{}
	for _, form := range []string{sampleForm, emptyForm} {
		for _, m := range mutants(form) {
			want, wantErrno := parseByRule(m)
			seen[wantErrno]++
			if s, e := Parse(m); !equal(s, want) || e != wantErrno {
				t.Errorf("Parse(%q) = %+v, %d, want %+v, %d", m, s, e, want, wantErrno)
			}
		}
	}
	if seen[api.OK] < 100 || seen[api.ErrForm] < 10000 {
		t.Errorf("%d forms and %d other texts are too few", seen[api.OK], seen[api.ErrForm])
	}
}

// P1

func TestNothingPanics(t *testing.T) {
	defer func() {
		if p := recover(); p != nil {
			t.Error(p)
		}
	}()
	long := strings.Repeat("\xff", 1<<20)
	for _, s := range []api.State{
		{Rev: math.MinInt}, {Rev: math.MaxInt},
		{Jobs: make([]api.Job, 1<<16)}, {Nodes: make([]api.Node, 1<<16)}, {Leases: make([]api.Lease, 1<<16)},
		{Jobs: []api.Job{{Name: long, Prio: math.MinInt, Need: math.MinInt, Tries: math.MinInt, Tag: long}}},
		{Nodes: []api.Node{{Name: long, Room: math.MinInt, Zone: long}}},
		{Leases: []api.Lease{{Job: long, Node: long, Until: math.MinInt}}},
	} {
		Print(s)
	}
	for _, unit := range []string{"\xff", "{", "[", "]", "}", ":", ",", `"`, `\`, `\u`, `\u00`, "-", "0", `:[{`, `:[{:"`, `:[{:"\u00`, `:"\`, `:0`, `:-`} {
		for _, start := range []string{"", `{"rev":`, `{"rev":0,"jobs":[`, `{"rev":0,"jobs":[{"name":"`, `{"rev":0,"jobs":[],"nodes":[],"leases":[{"job":`} {
			for _, count := range []int{0, 1, 2, 3, 5, 1000, 10000, 1 << 17} {
				text := start + strings.Repeat(unit, count)
				Parse(text)
				Quote(text)
			}
		}
	}
}

// P2 (package rules tests that results share no memory with arguments)

// spare returns a copy of rows with unused capacity, which holds its first row.
func spare[T any](rows []T) []T {
	more := slices.Clone(rows)
	for range 5 {
		more = append(more, rows[0])
	}
	return more[:len(rows)]
}

func TestArgumentsAreNotModified(t *testing.T) {
	states := []api.State{sample(), full("x")}
	for _, s := range invalid() {
		if len(s.Leases) > 0 {
			states = append(states, s)
		}
	}
	for i, s := range states {
		s.Jobs, s.Nodes, s.Leases = spare(s.Jobs), spare(s.Nodes), spare(s.Leases)
		whole := func() api.State {
			return api.State{Rev: s.Rev, Jobs: s.Jobs[:cap(s.Jobs)], Nodes: s.Nodes[:cap(s.Nodes)], Leases: s.Leases[:cap(s.Leases)]}
		}
		before := whole()
		before.Jobs, before.Nodes, before.Leases = slices.Clone(before.Jobs), slices.Clone(before.Nodes), slices.Clone(before.Leases)
		Print(s)
		if !reflect.DeepEqual(whole(), before) {
			t.Errorf("state %d was modified", i)
		}
	}
}

func TestResultsDependOnArgumentsOnly(t *testing.T) {
	type result struct {
		form, quoted string
		s            api.State
		errors       [2]api.Errno
	}
	run := func(s api.State) (r result) {
		r.form, r.errors[0] = Print(s)
		r.s, r.errors[1] = Parse(formByRule(s))
		r.quoted = Quote(r.form)
		return r
	}
	all := randomStates()
	first := make([]result, len(all))
	for i, s := range all {
		first[i] = run(s)
	}
	for i := len(all) - 1; i >= 0; i-- {
		if again := run(all[i]); !reflect.DeepEqual(again, first[i]) {
			t.Errorf("state %d: first %+v, then %+v", i, first[i], again)
		}
	}
}

package bounds

import (
	"math/rand"
	"slices"
	"strings"
	"testing"

	"pomace/api"
	"pomace/version"
)

func at(v string) api.End { return api.End{Has: true, Version: v, Closed: true} }

func by(v string) api.End { return api.End{Has: true, Version: v} }

func hard(l ...api.End) api.Range {
	r := api.Range{Hard: true}
	for i := 0; i < len(l); i += 2 {
		r.Parts = append(r.Parts, api.Interval{Lo: l[i], Hi: l[i+1]})
	}
	return r
}

func soft(v string) api.Range { return api.Range{Version: v} }

// P5.1: what is a range.
func TestParse(t *testing.T) {
	none := api.End{}
	for s, want := range map[string]api.Range{
		"1.0": soft("1.0"), " \t1.0-x+y_z\n": soft("1.0-x+y_z"), "-": soft("-"),
		"[1]": hard(at("1"), at("1")), "[1,2)": hard(at("1"), by("2")), "(1,2]": hard(by("1"), at("2")), "[,1]": hard(none, at("1")), "(,1)": hard(none, by("1")),
		"[1,]": hard(at("1"), none), "[1,)": hard(at("1"), none), "(,)": hard(none, none), "[,]": hard(none, none), "(,1],[2,)": hard(none, at("1"), at("2"), none),
		" [ 1 , 2 ) , ( 2\t,\n3 ] ": hard(at("1"), by("2"), by("2"), at("3")), "[1],[2]": hard(at("1"), at("1"), at("2"), at("2")), "[1,1.0]": hard(at("1"), at("1.0")),
		"[1,2),[2,3]": hard(at("1"), by("2"), at("2"), at("3")), "(1,2),(2,3)": hard(by("1"), by("2"), by("2"), by("3")),
	} {
		if r, e := Parse(s); e != api.OK || !Same(r, want) {
			t.Errorf("%q: %v %d", s, r, e)
		}
	}
	for _, s := range []string{
		"", " ", "1 0", "1,2", "${v}", "1]", ")", "]", ",", "[", "(", "[]", "()", "(1)", "[1)", "(1]", "[1", "[1,2", "[1,2}", "[,", "[1,2]]", "[1,2] x", "[1,2]x", "[1],", ",[1]", "[1] [2]", "[1]][2]",
		"[1,2,3]", "[1 2]", "[1 2,3]", "[1,2 3]", "[2,1]", "[1,1)", "(1,1]", "(1,1)", "[1,2],[2,3]", "[2],[1]", "[1,],[2]", "[1],[,2]", "[1,2],[1.5,3]", "[[1]", "[1,(2]", "x[1]",
		"[\x00]", "[" + strings.Repeat("1", 65) + "]", strings.Repeat("1", 65), "[1:2]", "ä", "[1\x00,2]",
	} {
		if r, e := Parse(s); e != api.ErrRange || !Same(r, api.Range{}) {
			t.Errorf("%q: %v %d", s, r, e)
		}
	}
	var many []string
	for i := range api.MaxList + 1 {
		many = append(many, "[1."+strings.Repeat("1", 1+i/250)+"."+string(rune('0'+i%250/100))+string(rune('0'+i%100/10))+string(rune('0'+i%10))+"]")
	}
	many = version.Sort(many)
	slices.SortFunc(many, func(a, b string) int { return version.Compare(strings.Trim(a, "[]"), strings.Trim(b, "[]")) })
	if r, e := Parse(strings.Join(many[1:], ",")); e != api.OK || len(r.Parts) != api.MaxList {
		t.Error("many", e)
	}
	if _, e := Parse(strings.Join(many, ",")); e != api.ErrRange {
		t.Error("too many", e)
	}
}

// P5.2: what may be a range.
func TestMay(t *testing.T) {
	none := api.End{}
	for i, r := range []api.Range{soft("1"), hard(none, none), hard(at("1"), at("1.0")), hard(none, by("1"), at("1"), none), {Version: "1", Parts: []api.Interval{}}} {
		if !May(r) {
			t.Error("may", i)
		}
	}
	for i, r := range []api.Range{
		{}, {Hard: true}, soft(" 1"), {Version: "1", Parts: []api.Interval{{}}}, {Hard: true, Version: "1", Parts: []api.Interval{{}}}, hard(at(""), none), hard(at("["), none), hard(none, at("1 ")),
		hard(api.End{Version: "1"}, none), hard(none, api.End{Closed: true}), hard(by("1"), at("1")), hard(at("2"), at("1")), hard(none, none, none, none), hard(at("1"), none, at("2"), none),
		hard(at("1"), at("2"), none, at("3")), hard(at("1"), at("2"), at("2.0"), at("3")), hard(at("3"), at("4"), at("1"), at("2")),
	} {
		if May(r) {
			t.Error("may not", i)
		}
	}
}

// P5.3: ranges as texts; what is the same.
func TestPrint(t *testing.T) {
	for s, want := range map[string]string{"[ 1 , 2 )": "[1,2)", "[1]": "[1]", "[1,1]": "[1]", "[1,1.0]": "[1,1.0]", "[,1],(2,]": "(,1],(2,)", " x": "x", "[,]": "(,)"} {
		if r, _ := Parse(s); Print(r) != want {
			t.Errorf("%q: %q", s, Print(r))
		}
	}
	for want, r := range map[string]api.Range{"": {Hard: true}, "(1,1)": hard(by("1"), by("1")), "[1,1)": hard(at("1"), by("1")), "[,]": hard(api.End{Closed: true}, api.End{Closed: true}), "v": {Version: "v", Parts: []api.Interval{{}}}} {
		if Print(r) != want {
			t.Errorf("%v: %q", r, Print(r))
		}
	}
	a := hard(at("1"), by("2"))
	for i, b := range []api.Range{hard(at("1"), at("2")), hard(at("1"), by("2.0")), hard(), {Parts: a.Parts}, {Hard: true, Version: "1", Parts: a.Parts}} {
		if Same(a, b) {
			t.Error(i)
		}
	}
	if !Same(a, hard(at("1"), by("2"))) || !Same(api.Range{Parts: []api.Interval{}}, api.Range{}) {
		t.Error("same")
	}
}

// P5.4: what is in a range.
func TestHas(t *testing.T) {
	for s, in := range map[string][2]string{
		"[1,2)": {"1 1.0 1.9 2-rc", "2 2.0 0.9 1-rc"}, "(,1],[2,)": {"0.5 1.0 2 3 x", "1.5 1.0.1 2-alpha"}, "[1]": {"1 1.0 1.ga", "1.1 1-sp 1-rc"}, "(1,2]": {"1-sp 2", "1 1.0 2.1"}, "(,)": {"0 x 99", ""}, "7": {"1 x 7", ""},
	} {
		r, _ := Parse(s)
		for _, v := range strings.Fields(in[0]) {
			if !Has(r, v) {
				t.Error(s, v)
			}
		}
		for _, v := range strings.Fields(in[1]) {
			if Has(r, v) {
				t.Error(s, v)
			}
		}
	}
	if Has(api.Range{Hard: true}, "1") || !Has(api.Range{}, "1") {
		t.Error("none")
	}
	r, _ := Parse("[1,3)")
	l := []string{"2", "0", "1.0", "3", "2.0", "1"}
	if got := Among(r, l); !slices.Equal(got, []string{"2", "1.0", "2.0", "1"}) {
		t.Error(got)
	}
	if v, ok := Pick(r, l); v != "2" || !ok {
		t.Error(v)
	}
	if v, ok := Pick(r, []string{"0"}); v != "" || ok {
		t.Error(v)
	}
	if v, ok := Pick(soft("1"), l); v != "3" || !ok {
		t.Error(v)
	}
	if len(Among(r, nil)) != 0 {
		t.Error("none")
	}
}

// P5.5: what is in both.
func TestMeet(t *testing.T) {
	for _, w := range [][3]string{
		{"1", "2", "1"}, {"1", "[2]", "[2]"}, {"[2]", "1", "[2]"}, {"[1,3]", "[2,4]", "[2,3]"}, {"[1,2]", "[2,3]", "[2]"}, {"[1,2)", "[2,3]", ""}, {"[1,2]", "(2,3]", ""}, {"[1,2]", "[1.0,2.0]", "[1,2]"},
		{"[1,2]", "(1.0,2.0)", "(1.0,2.0)"}, {"(1,2)", "[1.0,2.0]", "(1,2)"}, {"(1,2)", "(1.0,2.0)", "(1,2)"}, {"(,)", "[1]", "[1]"}, {"(,)", "(,)", "(,)"}, {"(,2],[3,)", "[1,4]", "[1,2],[3,4]"}, {"[1,4]", "(,2],[3,)", "[1,2],[3,4]"},
		{"(,2]", "[1,)", "[1,2]"}, {"[1,)", "(,2]", "[1,2]"}, {"[1,)", "(2,)", "(2,)"}, {"(,1)", "(,1]", "(,1)"}, {"[1]", "[2]", ""},
	} {
		a, _ := Parse(w[0])
		b, _ := Parse(w[1])
		if got := Meet(a, b); Print(got) != w[2] || got.Hard != (a.Hard || b.Hard) {
			t.Error(w, Print(got))
		}
	}
	a := hard(at("1"), at("2"))
	Meet(a, soft("1")).Parts[0].Lo.Version = "9"
	if a.Parts[0].Lo.Version != "1" {
		t.Error("shared")
	}
}

func some1(r *rand.Rand) string {
	vs := []string{"0", "1", "1.0", "1-rc", "2", "2.1", "3", "3-sp"}
	s := ""
	for range 1 + r.Intn(3) {
		if s != "" {
			s += ","
		}
		lo, hi := vs[r.Intn(len(vs))], vs[r.Intn(len(vs))]
		switch r.Intn(6) {
		case 0:
			s += "[" + lo + "]"
		case 1:
			s += "(," + hi + "]"
		case 2:
			s += "[" + lo + ",)"
		case 3:
			s += lo
		default:
			s += string("[("[r.Intn(2)]) + lo + " , " + hi + string("])"[r.Intn(2)])
		}
	}
	return s
}

// P5.6, P5.7, P5.8: reading back, what is in both, the highest.
func TestFollows(t *testing.T) {
	r := rand.New(rand.NewSource(8))
	probes := []string{"", "0", "0.5", "1", "1.0", "1-rc", "1-sp", "1.5", "2", "2.0.1", "2.1", "3", "3-sp", "4"}
	good := 0
	for range 100000 {
		a, e := Parse(some1(r))
		b, f := Parse(some1(r))
		if e != api.OK || f != api.OK {
			continue
		}
		good++
		if c, e := Parse(Print(a)); e != api.OK || !Same(a, c) || !May(a) {
			t.Fatal(Print(a))
		}
		m := Meet(a, b)
		for _, v := range probes {
			if Has(m, v) != (Has(a, v) && Has(b, v)) {
				t.Fatal(Print(a), Print(b), Print(m), v)
			}
		}
		if len(m.Parts) > 0 && !May(m) {
			t.Fatal(Print(a), Print(b), Print(m))
		}
		top, ok := Pick(a, probes)
		if ok && !Has(a, top) {
			t.Fatal(Print(a), top)
		}
		for _, v := range probes {
			if Has(a, v) && (!ok || version.Compare(v, top) > 0) {
				t.Fatal(Print(a), top, v)
			}
		}
	}
	if good < 5000 {
		t.Error(good)
	}
}

package version

import (
	"math/rand"
	"slices"
	"strings"
	"testing"

	"pomace/api"
)

// P4.1: what may be a version.
func TestMay(t *testing.T) {
	for _, s := range []string{"1", "a", ".", "-", "_", "+", "1.0-SNAPSHOT", "Zz09.-_+", strings.Repeat("1", 64)} {
		if !May(s) {
			t.Error(s)
		}
	}
	for _, s := range []string{"", strings.Repeat("1", 65), "1 0", "1:0", "[1]", "ä", "1\x00", "1,2", "${v}", "a/b"} {
		if May(s) {
			t.Error(s)
		}
	}
}

// tell writes parts: a letter for a word, a sign for a hyphen.
func tell(l []api.Part) string {
	var out []string
	for _, p := range l {
		s := "w"
		if p.Number {
			s = "n"
		}
		if p.Hyphen {
			s = "-" + s
		}
		out = append(out, s+":"+p.Text)
	}
	return strings.Join(out, " ")
}

// P4.2: how versions are cut, what words are, what is trimmed.
func TestParts(t *testing.T) {
	for s, want := range map[string]string{
		"": "n:", "0": "n:", "000": "n:", "1": "n:1", "007": "n:7", "1.2": "n:1 n:2", "1-2": "n:1 -n:2", "1a": "n:1 -w:a", "a1": "w:alpha -n:1",
		"1.10a2": "n:1 n:10 -w:alpha -n:2", "1.a2": "n:1 w:alpha -n:2", "1.a.2": "n:1 w:a n:2", "1-a-2": "n:1 -w:a -n:2", "b0": "w:beta", "m1": "w:milestone -n:1", "1m": "n:1 -w:m",
		"1.0": "n:1", "1.0.0": "n:1", "1.0-0.0": "n:1", "1.ga": "n:1", "1-FINAL": "n:1", "1.Release": "n:1", "ga": "w:", "final.1": "w: n:1", "1.ga.1": "n:1 w: n:1",
		"1-cr2": "n:1 -w:rc -n:2", "CR": "w:rc", "1..2": "n:1 n: n:2", "1.-2": "n:1 -n:2", "-1": "n: -n:1", "-": "n:", ".": "n:", "0-1": "n: -n:1", "0.0-1": "n: -n:1",
		"1.0.0-rc": "n:1 -w:rc", "1-0.1": "n:1 -n: n:1", "1_2": "n:1 -w:_ -n:2", "1+b2": "n:1 -w:+b -n:2", "x\xe42": "w:x\xe4 -n:2", "1.0a": "n:1 -w:a", "1-ga-1": "n:1 -n:1", "1.0.ga-0-x": "n:1 -w:x",
		"ÄB": "w:Äb", "1ga2": "n:1 -n:2", "1sp1": "n:1 -w:sp -n:1",
	} {
		if got := tell(Parts(s)); got != want {
			t.Errorf("%q: %s, not %s", s, got, want)
		}
	}
}

// P4.3: each of a row is below the next; those of one line are the same.
func TestCompare(t *testing.T) {
	rows := []string{
		"1-alpha 1.0-alpha 1-ALPHA.0 1alpha", "1-alpha1 1-a1 1a1 1-alpha-1", "1-alpha2", "1-alpha10", "1-alpha.1", "1-beta 1-beta-0", "1-b2", "1-milestone", "1-m3", "1-rc 1-cr", "1.0-rc2",
		"1.0-snapshot 1-SNAPSHOT", "1 1.0 1.ga 1-final 1.0.RELEASE 01 1-0 1..0", "1-sp 1.sp", "1-sp1", "1-_", "1-a", "1-foo", "1-x", "1-xa", "1-1", "1-2", "1-10", "1.1-rc", "1.1", "1.1.1", "1.2", "1.10", "1.99999999999999999999", "1.100000000000000000000", "2", "10",
	}
	for i, low := range rows {
		for j, high := range rows {
			for _, a := range strings.Fields(low) {
				for _, b := range strings.Fields(high) {
					want := 0
					if i < j {
						want = -1
					} else if i > j {
						want = 1
					}
					if Compare(a, b) != want {
						t.Error(a, b, Compare(a, b))
					}
				}
			}
		}
	}
	if Compare("alpha1", "") != -1 || Compare("sp", "") != 1 || Compare("", "0.ga") != 0 || Compare("1-x", "1.x") != 0 {
		t.Error("edges")
	}
}

// P4.4: the parts as a text.
func TestCanon(t *testing.T) {
	for s, want := range map[string]string{
		"1.0.RELEASE": "1", "1.10a2": "1.10-alpha-2", "": "0", "0": "0", "ga": "", "1..2": "1.0.2", "1.ga.2": "1..2", "-1": "0-1", "1-CR3": "1-rc-3", "1.x": "1.x", "007": "7", "1-0.1": "1-0.1",
	} {
		if Canon(s) != want {
			t.Errorf("%q: %q, not %q", s, Canon(s), want)
		}
	}
}

// P4.4: sorting, and the highest.
func TestSort(t *testing.T) {
	l := []string{"2", "1.0", "1-rc", "1", "10", "1.0.0", "", "2.0"}
	was := slices.Clone(l)
	if got := Sort(l); !slices.Equal(got, []string{"", "1-rc", "1.0", "1", "1.0.0", "2", "2.0", "10"}) || !slices.Equal(l, was) {
		t.Error(got, l)
	}
	if len(Sort(nil)) != 0 {
		t.Error("none")
	}
	for want, l := range map[string][]string{"1.0": {"1.0", "1"}, "1": {"1", "1.0"}, "10": {"9", "10", "10.0", "2"}, "1-sp": {"1", "1-sp", "1-rc"}, "": {"", "0"}} {
		if got, ok := Highest(l); got != want || !ok {
			t.Error(l, got)
		}
	}
	if s, ok := Highest(nil); s != "" || ok {
		t.Error("none")
	}
}

func some(r *rand.Rand) string {
	pieces := []string{"1", "0", "10", "01", ".", "-", ".", "-", "a", "b", "alpha", "rc", "cr", "ga", "final", "sp", "x", "SNAPSHOT", "m", "_", "\xe4"}
	s := ""
	for range r.Intn(6) {
		s += pieces[r.Intn(len(pieces))]
	}
	return s
}

// P4.5: an order.
func TestOrder(t *testing.T) {
	r := rand.New(rand.NewSource(5))
	for range 100000 {
		a, b, c := some(r), some(r), some(r)
		if Compare(a, b) != -Compare(b, a) || Compare(a, a) != 0 {
			t.Fatal(a, b)
		}
		if Compare(a, b) <= 0 && Compare(b, c) <= 0 && Compare(a, c) > 0 {
			t.Fatal(a, b, c)
		}
		if Compare(a, b) == 0 && Compare(a, c) != Compare(b, c) {
			t.Fatal(a, b, c)
		}
	}
}

// P4.6: Canon tells the same version; null ends and capitals change nothing.
func TestCanonSame(t *testing.T) {
	r := rand.New(rand.NewSource(6))
	for range 50000 {
		s := some(r)
		c := Canon(s)
		if Compare(s, c) != 0 || Compare(Canon(c), s) != 0 {
			t.Fatalf("%q %q %q", s, c, Canon(c))
		}
		for _, end := range []string{".0", "-0", ".ga", "-FINAL", ".release.0", "-000"} {
			if s != "" && Compare(s, s+end) != 0 {
				t.Fatalf("%q %q", s, s+end)
			}
		}
		if !strings.Contains(s, "\xe4") && Compare(s, strings.ToUpper(s)) != 0 {
			t.Fatal(s)
		}
	}
}

// P4.7: what is sorted is the same ones, rising, those alike in their order.
func TestSorted(t *testing.T) {
	r := rand.New(rand.NewSource(7))
	for range 2000 {
		var l []string
		for range r.Intn(12) {
			l = append(l, some(r))
		}
		got := Sort(l)
		want := slices.Clone(l)
		for i := range want {
			for j := i; j > 0 && Compare(want[j-1], want[j]) > 0; j-- {
				want[j-1], want[j] = want[j], want[j-1]
			}
		}
		if !slices.Equal(got, want) {
			t.Fatal(l, got)
		}
	}
}

package lock

import (
	"math/rand"
	"slices"
	"strconv"
	"strings"
	"testing"

	"pomace/api"
	"pomace/coord"
	"pomace/engine"
	"pomace/sample"
)

func key(s string) api.Key {
	k, _ := coord.ParseKey(s)
	return k
}

func pin(k, v string, scope int) api.Pin { return api.Pin{Key: key(k), Version: v, Scope: scope} }

func example() *engine.Engine {
	return engine.New(sample.Store("g:a:1", sample.Needs("c 1 test; b 2"), "g:b:2", sample.Needs("d 3 runtime"), "g:c:1", "", "g:d:3", ""), sample.Gav("g:a:1"), 9)
}

func locked() api.Lock {
	return api.Lock{Root: sample.Gav("g:a:1"), Pins: []api.Pin{pin("g:b:jar", "2", 1), pin("g:c:jar", "1", 5), pin("g:c:jar:src", "1+x", 3), pin("g:c:war", "1", 4), pin("h:a:jar", "3", 2)}}
}

// P24.1: the lock of an engine, and what may be a lock.
func TestOf(t *testing.T) {
	want := api.Lock{Root: sample.Gav("g:a:1"), Pins: []api.Pin{pin("g:b:jar", "2", 1), pin("g:c:jar", "1", 5), pin("g:d:jar", "3", 2)}}
	if l, problem := Of(example(), sample.Gav("g:a:1")); problem != (api.Problem{}) || !Same(l, want) {
		t.Error(l, problem)
	}
	want.Root = api.Gav{Group: "x"}
	if l, problem := Of(example(), want.Root); problem != (api.Problem{}) || !Same(l, want) {
		t.Error(l, problem)
	}
	if l, problem := Of(engine.New(nil, sample.Gav("g:a:1"), 9), sample.Gav("g:a:1")); problem != (api.Problem{Err: api.ErrPom, Gav: sample.Gav("g:a:1")}) || !Same(l, api.Lock{}) {
		t.Error(l, problem)
	}
	if l, problem := Of(nil, sample.Gav("g:a:1")); problem != (api.Problem{Err: api.ErrPom}) || !Same(l, api.Lock{}) {
		t.Error(l, problem)
	}
}

// pins: n pins that rise.
func pins(n int) []api.Pin {
	var l []api.Pin
	for i := range n {
		l = append(l, pin("g:"+strconv.Itoa(10000+i)+":jar", "1", 1))
	}
	return l
}

func TestMay(t *testing.T) {
	for i, l := range []api.Lock{locked(), {Root: sample.Gav("g:a:1")}, {Root: sample.Gav("g:a:1"), Pins: pins(api.MaxTree)}} {
		if !May(l) {
			t.Error("may", i)
		}
	}
	for i, change := range []func(l *api.Lock){
		func(l *api.Lock) { l.Root = api.Gav{} }, func(l *api.Lock) { l.Pins = pins(api.MaxTree + 1) }, func(l *api.Lock) { l.Pins[0].Key.Type = "" }, func(l *api.Lock) { l.Pins[0], l.Pins[1] = l.Pins[1], l.Pins[0] }, func(l *api.Lock) { l.Pins[1] = l.Pins[0] },
		func(l *api.Lock) { l.Pins[0].Version = "[1]" }, func(l *api.Lock) { l.Pins[0].Version = "" }, func(l *api.Lock) { l.Pins[4].Scope = 0 }, func(l *api.Lock) { l.Pins[4].Scope = 6 }, func(l *api.Lock) { l.Pins[4].Scope = -1 },
	} {
		l := locked()
		change(&l)
		if May(l) || Same(l, locked()) {
			t.Error("may not", i)
		}
	}
}

const text = "pomace 1\nroot g:a:1\npin g:b:jar 2 compile\npin g:c:jar 1 test\npin g:c:jar:src 1+x provided\npin g:c:war 1 system\npin h:a:jar 3 runtime\nend 5\n"

// P24.2: locks as texts, and what is wrong in texts.
func TestTexts(t *testing.T) {
	if got := Print(locked()); got != text {
		t.Error(got)
	}
	if got := Print(api.Lock{Pins: []api.Pin{{}}}); got != "pomace 1\nroot ::\npin ::  \nend 1\n" {
		t.Errorf("%q", got)
	}
	if l, e, line := Parse(text); e != api.OK || line != 0 || !Same(l, locked()) {
		t.Error(l, e, line)
	}
	if l, e, line := Parse("pomace 1\nroot g:a:1\nend 0\n"); e != api.OK || line != 0 || !Same(l, api.Lock{Root: sample.Gav("g:a:1")}) {
		t.Error(l, e, line)
	}
	const front = "pomace 1\nroot g:a:1\n"
	for s, want := range map[string]int{
		"": 1, "\n": 1, "pomace 2\n": 1, "pomace 1 \n": 1, " pomace 1\n": 1, "pomace 1\r\n": 1, "pomace": 1, "pomace 1": 2, "pomace 1\n": 2, "pomace 1\nroot": 2, "pomace 1\nroot g:a\n": 2, "pomace 1\nroot  g:a:1\n": 2, "pomace 1\nroot g:a:1 \n": 2, "pomace 1\nroot g:a:1 x\n": 2, "pomace 1\nend 0\n": 2, "pomace 1\n\n": 2,
		"pomace 1\nroot g:a:1": 3, front: 3, front + "\n": 3, front + "pin": 3, front + "pin g:b:jar 2\n": 3, front + "pin g:b:jar 2 compile x\n": 3, front + "pin g:b 2 compile\n": 3, front + "pin g:b:jar [2] compile\n": 3, front + "pin g:b:jar 2 import\n": 3, front + "pin g:b:jar 2 x\n": 3, front + "pin  g:b:jar 2 compile\n": 3, front + "root g:a:1\n": 3,
		front + "pin g:b:jar: 2 compile\n": 3, front + "end 1\n": 3, front + "end 00\n": 3, front + "end\n": 3, front + "end 0 \n": 3, front + "end 0": 4, front + "end 1": 3, front + "end 0\n\n": 4, front + "end 0\nx": 4, front + "end 0\nend 0\n": 4, front + "pin g:b:jar 2 compile": 4, front + "pin g:b:jar 2 compile\n": 4,
		front + "pin g:b:jar 2 compile\npin g:b:jar 2 compile\n": 4, front + "pin g:b:jar 2 compile\npin g:a:jar 2 compile\n": 4, front + "pin g:b:jar 2 compile\nend 0\n": 4, front + "pin g:b:jar 2 compile\nend 01\n": 4, front + "pin g:b:jar 2 compile\nend 1": 5,
	} {
		if l, e, line := Parse(s); e != api.ErrArg || line != want || !Same(l, api.Lock{}) {
			t.Errorf("%q: %d %d", s, e, line)
		}
	}
	full := api.Lock{Root: sample.Gav("g:a:1"), Pins: pins(api.MaxTree)}
	if l, e, _ := Parse(Print(full)); e != api.OK || !Same(l, full) {
		t.Error("full", e)
	}
	full.Pins = pins(api.MaxTree + 1)
	if _, e, line := Parse(Print(full)); e != api.ErrArg || line != api.MaxTree+3 {
		t.Error("more", e, line)
	}
}

// P24.3: does it hold; which pin; what is the same.
func TestAsk(t *testing.T) {
	e := example()
	l, _ := Of(e, sample.Gav("g:a:1"))
	other := l
	other.Root = sample.Gav("g:a:2")
	less := l
	less.Pins = l.Pins[:2]
	moved := api.Lock{Root: l.Root, Pins: slices.Clone(l.Pins)}
	moved.Pins[0].Scope = 2
	if !Holds(e, l) || Holds(e, other) || Holds(e, less) || Holds(e, moved) || Holds(nil, l) || Holds(nil, api.Lock{}) || Holds(engine.New(nil, sample.Gav("g:a:1"), 9), api.Lock{Root: sample.Gav("g:a:1")}) {
		t.Error("holds")
	}
	if p, ok := Find(l, key("g:c:jar")); !ok || p != l.Pins[1] {
		t.Error(p)
	}
	if p, ok := Find(l, key("g:x:jar")); ok || p != (api.Pin{}) {
		t.Error(p)
	}
	if !Same(l, l) || Same(l, other) || Same(l, less) || Same(l, moved) || !Same(api.Lock{Pins: []api.Pin{}}, api.Lock{}) {
		t.Error("same")
	}
}

// P24.4: what may be is parsed as the same; what was parsed is printed as the very text.
func TestBack(t *testing.T) {
	r := rand.New(rand.NewSource(42))
	lines := strings.SplitAfter(text, "\n")
	good := 0
	for range 20000 {
		l := locked()
		l.Pins = slices.DeleteFunc(l.Pins, func(api.Pin) bool { return r.Intn(2) == 0 })
		if m, e, _ := Parse(Print(l)); !May(l) || e != api.OK || !Same(l, m) {
			t.Fatal(l)
		}
		s := strings.Join(slices.DeleteFunc(slices.Clone(lines[:7]), func(string) bool { return r.Intn(8) == 0 }), "") + "end " + strconv.Itoa(3+r.Intn(3)) + []string{"\n", "\n", ""}[r.Intn(3)]
		l, e, line := Parse(s)
		if e == api.OK {
			good++
			if Print(l) != s || !May(l) || line != 0 {
				t.Fatal(s)
			}
		} else if line < 1 || !Same(l, api.Lock{}) {
			t.Fatal(s, line)
		}
	}
	if good < 100 {
		t.Error(good)
	}
}

// P24.5: the lock of an engine's own root may be, and holds.
func TestHolds(t *testing.T) {
	r := rand.New(rand.NewSource(43))
	for range 500 {
		var l []string
		for _, a := range []string{"a", "b", "c", "d"} {
			need := ""
			for range r.Intn(4) {
				need += string("abcd"[r.Intn(4)]) + " 1 " + []string{"compile", "runtime", "test", "provided", "system"}[r.Intn(5)] + ";"
			}
			l = append(l, "g:"+a+":1", sample.Needs(need))
		}
		e := engine.New(sample.Store(l...), sample.Gav("g:a:1"), 9)
		got, problem := Of(e, sample.Gav("g:a:1"))
		if problem != (api.Problem{}) || !May(got) || !Holds(e, got) {
			t.Fatal(got, problem)
		}
	}
}

package diff

import (
	"math/rand"
	"slices"
	"strconv"
	"testing"

	"pomace/api"
	"pomace/coord"
	"pomace/lock"
)

func key(a string) api.Key { return api.Key{Group: "g", Artifact: a, Type: "jar"} }

func pin(w string, scope int) api.Pin {
	return api.Pin{Key: key(w[:1]), Version: w[1:], Scope: scope}
}

func locked(pins ...api.Pin) api.Lock {
	g, _ := coord.ParseGav("g:a:1")
	return api.Lock{Root: g, Pins: pins}
}

func put(p api.Pin) api.Edit  { return api.Edit{Key: p.Key, Has: true, New: p} }
func gone(p api.Pin) api.Edit { return api.Edit{Key: p.Key, Had: true, Old: p} }
func turn(p, q api.Pin) api.Edit {
	return api.Edit{Key: p.Key, Had: true, Has: true, Old: p, New: q}
}

// P25.1: what is another one.
func TestEdits(t *testing.T) {
	a := locked(pin("b1", 1), pin("c1", 1), pin("d1", 1), pin("e1", 1))
	b := locked(pin("a1", 2), pin("b2", 1), pin("d1", 1), pin("e1", 5), pin("f1", 1))
	want := []api.Edit{put(pin("a1", 2)), turn(pin("b1", 1), pin("b2", 1)), gone(pin("c1", 1)), turn(pin("e1", 1), pin("e1", 5)), put(pin("f1", 1))}
	if got := Edits(a, b); !slices.Equal(got, want) {
		t.Error(got)
	}
	other := a
	other.Root.Version = "2"
	if len(Edits(a, a)) > 0 || len(Edits(a, other)) > 0 || len(Edits(locked(), locked())) > 0 {
		t.Error("same")
	}
	wrong := locked(pin("c1", 1), pin("b1", 1))
	if len(Edits(a, wrong)) > 0 || len(Edits(wrong, a)) > 0 || len(Edits(api.Lock{}, a)) > 0 {
		t.Error("wrong")
	}
}

// P25.2: what may be edits.
func TestMay(t *testing.T) {
	for i, l := range [][]api.Edit{nil, {put(pin("a1", 1))}, {gone(pin("a1", 1)), turn(pin("b1", 1), pin("b1", 2))}, {put(api.Pin{Key: api.Key{}, Version: "["})}, {{Had: true}}, {{Has: true}}} {
		if !May(l) {
			t.Error("may", i)
		}
	}
	p, q := pin("a1", 1), pin("b1", 1)
	for i, l := range [][]api.Edit{
		{{Key: key("a")}}, {{}}, {put(q), put(p)}, {put(p), gone(p)}, {turn(p, p)}, {{Key: key("a"), Has: true, New: q}}, {{Key: key("a"), Had: true, Old: q}}, {{Key: key("a"), Has: true, New: p, Old: p}}, {{Key: key("a"), Had: true, New: p, Old: p}}, {{Key: key("a"), Had: true, Has: true, Old: p, New: q}},
	} {
		if May(l) || len(l) == 1 && func() bool { _, e := Apply(locked(), l); return e == api.OK }() {
			t.Error("may not", i)
		}
		if m, ok := Join(l, nil); ok || len(m) > 0 {
			t.Error("join", i)
		}
		if m, ok := Join(nil, l); ok || len(m) > 0 {
			t.Error("join", i)
		}
	}
}

// P25.3: locks with edits applied, and what doesn't fit.
func TestApply(t *testing.T) {
	a := locked(pin("b1", 1), pin("c1", 1), pin("d1", 1))
	l := []api.Edit{put(pin("a1", 2)), turn(pin("b1", 1), pin("b2", 1)), gone(pin("c1", 1)), put(pin("f1", 1))}
	if got, e := Apply(a, l); e != api.OK || !lock.Same(got, locked(pin("a1", 2), pin("b2", 1), pin("d1", 1), pin("f1", 1))) {
		t.Error(got, e)
	}
	var many api.Lock
	many.Root = a.Root
	for i := range api.MaxTree {
		many.Pins = append(many.Pins, api.Pin{Key: key("x" + strconv.Itoa(10000+i)), Version: "1", Scope: 1})
	}
	for i, w := range []struct {
		a api.Lock
		l []api.Edit
	}{
		{api.Lock{}, nil}, {a, []api.Edit{{}}}, {a, []api.Edit{gone(pin("b2", 1))}}, {a, []api.Edit{gone(pin("b1", 2))}}, {a, []api.Edit{gone(pin("x1", 1))}}, {a, []api.Edit{put(pin("b2", 1))}}, {a, []api.Edit{turn(pin("x1", 1), pin("x2", 1))}}, {a, []api.Edit{turn(pin("b2", 1), pin("b1", 1))}},
		{a, []api.Edit{put(pin("x[", 1))}}, {a, []api.Edit{put(pin("x1", 0))}}, {a, []api.Edit{turn(pin("b1", 1), pin("b1", 6))}}, {many, []api.Edit{put(pin("a1", 1))}},
	} {
		if got, e := Apply(w.a, w.l); e != api.ErrArg || !lock.Same(got, api.Lock{}) {
			t.Error(i, got, e)
		}
	}
}

// P25.4: edits turned and joined.
func TestJoin(t *testing.T) {
	p, q, o := pin("a1", 1), pin("a2", 1), pin("a3", 1)
	if got := Turn([]api.Edit{put(p), gone(q), turn(p, q)}); !slices.Equal(got, []api.Edit{gone(p), put(q), turn(q, p)}) || len(Turn(nil)) > 0 {
		t.Error(got)
	}
	b := pin("b1", 1)
	for i, w := range []struct {
		l, m, want []api.Edit
		ok         bool
	}{
		{nil, nil, nil, true}, {[]api.Edit{put(p)}, []api.Edit{put(b)}, []api.Edit{put(p), put(b)}, true}, {[]api.Edit{put(b)}, []api.Edit{put(p)}, []api.Edit{put(p), put(b)}, true}, {[]api.Edit{put(p)}, []api.Edit{gone(p)}, nil, true}, {[]api.Edit{gone(p)}, []api.Edit{put(p)}, nil, true},
		{[]api.Edit{gone(p)}, []api.Edit{put(q)}, []api.Edit{turn(p, q)}, true}, {[]api.Edit{put(p)}, []api.Edit{turn(p, q)}, []api.Edit{put(q)}, true}, {[]api.Edit{turn(p, q)}, []api.Edit{turn(q, o)}, []api.Edit{turn(p, o)}, true}, {[]api.Edit{turn(p, q)}, []api.Edit{turn(q, p)}, nil, true}, {[]api.Edit{turn(p, q)}, []api.Edit{gone(q)}, []api.Edit{gone(p)}, true},
		{[]api.Edit{put(p)}, []api.Edit{put(p)}, nil, false}, {[]api.Edit{gone(p)}, []api.Edit{gone(p)}, nil, false}, {[]api.Edit{put(p)}, []api.Edit{gone(q)}, nil, false}, {[]api.Edit{turn(p, q)}, []api.Edit{turn(o, p)}, nil, false}, {[]api.Edit{put(p), put(b)}, []api.Edit{gone(p), put(b)}, nil, false},
	} {
		if got, ok := Join(w.l, w.m); ok != w.ok || !slices.Equal(got, w.want) {
			t.Error(i, got, ok)
		}
	}
}

// P25.5: lines.
func TestTell(t *testing.T) {
	got := Tell([]api.Edit{put(pin("a1", 1)), gone(pin("b1", 5)), turn(pin("c1", 1), pin("c2", 2)), {Key: key("d")}})
	if !slices.Equal(got, []string{"+ g:a:jar 1 compile", "- g:b:jar 1 test", "~ g:c:jar 1 compile to 2 runtime", "+ g:d:jar  "}) || len(Tell(nil)) > 0 {
		t.Errorf("%q", got)
	}
}

func some(r *rand.Rand) api.Lock {
	l := locked()
	for _, a := range []string{"b", "c", "d", "e", "f"} {
		if r.Intn(3) > 0 {
			l.Pins = append(l.Pins, pin(a+strconv.Itoa(1+r.Intn(2)), 1+r.Intn(2)))
		}
	}
	return l
}

// P25.6, P25.7: from one lock to another and back; by way of a third.
func TestFollows(t *testing.T) {
	r := rand.New(rand.NewSource(44))
	for range 20000 {
		a, b, c := some(r), some(r), some(r)
		l, m := Edits(a, b), Edits(b, c)
		if got, e := Apply(a, l); e != api.OK || !lock.Same(got, b) || !May(l) {
			t.Fatal(a, b)
		}
		if got, e := Apply(b, Turn(l)); e != api.OK || !lock.Same(got, a) || !slices.Equal(Turn(l), Edits(b, a)) {
			t.Fatal(a, b)
		}
		if got, ok := Join(l, m); !ok || !slices.Equal(got, Edits(a, c)) {
			t.Fatal(a, b, c)
		}
	}
}

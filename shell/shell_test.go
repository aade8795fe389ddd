package shell

import (
	"math/rand"
	"slices"
	"strconv"
	"strings"
	"testing"

	"pomace/api"
	"pomace/audit"
	"pomace/cnf"
	"pomace/console"
	"pomace/coord"
	"pomace/dimacs"
	"pomace/engine"
	"pomace/model"
	"pomace/plan"
	"pomace/sample"
	"pomace/store"
)

// put is the line that puts a project that needs others, a semicolon between two: artifact and version.
func put(name, needs string) string {
	return "put " + name + " " + sample.Project(name, sample.Needs(needs))
}

// fill puts the projects of a store.
func fill(from *store.Store, say func(line string) string) {
	for _, g := range from.All() {
		text, _ := from.Text(g)
		say("put " + coord.PrintGav(g) + " " + text)
	}
}

// dialog says lines, and holds the answers against those behind them.
func dialog(t *testing.T, s *Shell, l ...string) {
	t.Helper()
	for i := 0; i+1 < len(l); i += 2 {
		if got := s.Say(l[i]); got != l[i+1] {
			t.Errorf("%q: %q, not %q", l[i], got, l[i+1])
		}
	}
}

// never makes a shell with the projects of that sample.
func never() *Shell {
	s := New()
	fill(sample.Never(), s.Say)
	return s
}

// P31.1: locks.
func TestLocks(t *testing.T) {
	s := never()
	const text = "pomace 1\nroot g:a:1\npin g:b:jar 1 compile\npin g:c:jar 1 compile\npin g:d:jar 1 compile\nend 3"
	dialog(t, s,
		"locks", "", "lock x", "no root", "check x", "no root", "show x", "none", "diff x x", "none", "root g:z:1", "ok", "lock x", "error 25 g:z:1", "show x", "none", "check x", "none",
		"root g:a:1", "ok", "lock x", "ok", "show x", text, "check x", "holds", "lock X.y-1", "ok", "locks", "X.y-1\nx", "diff x X.y-1", "", "diff x y", "none", "diff y x", "none",
		put("g:e:1", ""), "ok", "check x", "holds", "root g:b:1", "ok", "check x", "turned", "lock y", "ok", "show y", "pomace 1\nroot g:b:1\npin g:d:jar 1 compile\nend 1", "diff x y", "- g:b:jar 1 compile\n- g:c:jar 1 compile", "diff y x", "+ g:b:jar 1 compile\n+ g:c:jar 1 compile",
		"root g:c:1", "ok", "lock x", "ok", "diff y x", "~ g:d:jar 1 compile to 2 compile", "check x", "holds", "locks", "X.y-1\nx\ny")
	if got := s.Locks(); !slices.Equal(got, []string{"X.y-1", "x", "y"}) {
		t.Error(got)
	}
}

// P31.1: plans, and what is nearest and to blame.
func TestAsk(t *testing.T) {
	s := never()
	for _, line := range []string{"plan", "after g:a:jar", "nearest", "blame", "question"} {
		dialog(t, s, line, "no root")
	}
	dialog(t, s,
		"root g:a:1", "ok", "plan", "g:d:jar:1\ng:b:jar:1 g:c:jar:1\ng:a:jar:1", "after g:b:jar", "g:a:jar:1\ng:b:jar:1", "after g:x:jar", "", "nearest", "never", "blame", "g:a:jar:1 0\ng:a:jar:1 1\ng:b:jar:1 0\ng:c:jar:1 0",
		"question", "p cnf 5 6\n1 0\n-1 2 0\n-1 3 0\n-2 4 0\n-3 5 0\n-4 -5 0", "most 0", "ok", "nearest", "open", "blame", "open", "find", "open", "most x", "what?", "nearest", "open", "most 77", "ok", "nearest", "never",
		put("g:b:2", "d [2]"), "ok", "nearest", "cost 2\ng:a:jar:1\ng:b:jar:2\ng:c:jar:1\ng:d:jar:2", "blame", "fine",
		"root g:a:2", "ok", "plan", "error 25 g:a:2", "after g:a:jar", "error 25 g:a:2", "nearest", "error 25 g:a:2", "blame", "error 25 g:a:2", "question", "error 25 g:a:2", "root g:a", "what?", "nearest", "error 25 g:a:2",
		put("g:a:2", "b 1; x 1"), "ok", put("g:x:1", "y 1"), "ok", put("g:y:1", "x 1"), "ok", "plan", "g:d:jar:1\ng:b:jar:1\nround")
	many := New()
	dialog(t, many, "root g:a:1", "ok", put("g:a:1", "b 1"), "ok")
	for i := range 182 {
		many.Say(put("g:b:"+strconv.Itoa(i), ""))
	}
	dialog(t, many, "blame", "error 2 g:a:1 blame", "question", "error 2 g:a:1 blame", "nearest", "error 2 g:a:1 nearest")
}

// P31.1: what isn't understood.
func TestWhat(t *testing.T) {
	s := never()
	s.Say("root g:a:1")
	s.Say("lock x")
	for _, line := range []string{"lock", "lock x y", "lock a:b", "locks x", "show", "show x y", "show *", "check", "check x y", "check a:b", "diff", "diff x", "diff x x x", "diff x a:b", "diff * x", "plan x", "after", "after g:a", "after g:a:jar x", "nearest x", "blame x", "question x", "Lock x", "x"} {
		dialog(t, s, line, "what?")
	}
	fresh := New()
	for _, line := range []string{"plan x", "lock", "lock a:b", "check a:b", "after g:a", "nearest x"} {
		dialog(t, fresh, line, "what?")
	}
}

// P31.2: the console, the names, and a nil shell.
func TestConsole(t *testing.T) {
	s := New()
	s.Say(put("g:a:1", ""))
	if s.Console().Store().Len() != 1 || len(s.Locks()) > 0 || s.Console().Say("projects") != "g:a:1" {
		t.Error("console")
	}
	// a root that was said to the console alone isn't the shell's
	s.Console().Say("root g:a:1")
	dialog(t, s, "report", "g:a:jar:1", "plan", "no root")
	var none *Shell
	if none.Say("locks") != "" || none.Say("x") != "" || none.Console() != nil || len(none.Locks()) > 0 {
		t.Error("nil")
	}
}

// The example of the chapter.
func TestExample(t *testing.T) {
	s := New()
	dialog(t, s, "put g:a:1 <project><groupId>g</groupId><artifactId>a</artifactId><version>1</version></project>", "ok", "root g:a:1", "ok", "report", "g:a:jar:1", "compare 1.0 1.1", "below", "in [1,2) 2", "no",
		"lock x", "ok", "show x", "pomace 1\nroot g:a:1\nend 0", "check x", "holds", "plan", "g:a:jar:1", "nearest", "cost 0\ng:a:jar:1", "blame", "fine")
}

// P31.3, P31.4: answers are the layers'; the console's lines are answered as it does; lines that only ask change nothing.
func TestFollows(t *testing.T) {
	s, c := never(), console.New()
	fill(sample.Never(), c.Say)
	for _, line := range []string{"root g:a:1", "most 50"} {
		c.Say(line)
		s.Say(line)
	}
	asks := []string{"problem", "path compile", "files test", "report", "breaches", "find", "why g:d:jar", "projects", "versions g:b", "text g:a:1", "compare 1 2", "in [1] 1", "model g:a:1", "x", "", "# x", "put", "root x", "path x", " report ", "most", "#lock x"}
	for _, line := range asks {
		if s.Say(line) != c.Say(line) {
			t.Error(line)
		}
	}
	store, root := s.Console().Store(), api.Gav{Group: "g", Artifact: "a", Version: "1"}
	d, _ := audit.Deal(store, model.New(store), root)
	q, _ := cnf.Encode(d)
	if s.Say("question")+"\n" != dimacs.Print(q) {
		t.Error("question")
	}
	if got := plan.After(engine.New(store, root, 9), api.Key{Group: "g", Artifact: "d", Type: "jar"}); len(strings.Split(s.Say("after g:d:jar"), "\n")) != len(got) {
		t.Error("after")
	}
	s.Say("lock x")
	asks = append(asks, "plan", "after g:d:jar", "nearest", "blame", "question", "locks", "show x", "check x", "diff x x")
	was := map[string]string{}
	for _, line := range asks {
		was[line] = s.Say(line)
	}
	r := rand.New(rand.NewSource(47))
	for range 300 {
		line := asks[r.Intn(len(asks))]
		if got := s.Say(line); got != was[line] {
			t.Fatal(line, got)
		}
	}
}

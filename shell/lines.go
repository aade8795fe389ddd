package shell

import (
	"strconv"
	"strings"

	"pomace/api"
	"pomace/audit"
	"pomace/cnf"
	"pomace/console"
	"pomace/coord"
	"pomace/core"
	"pomace/diff"
	"pomace/dimacs"
	"pomace/engine"
	"pomace/lock"
	"pomace/model"
	"pomace/nearest"
	"pomace/plan"
)

// lock keeps the lock of the root by a name.
func (d *desk) lock(name string) string {
	return d.ask(func(e *engine.Engine) string {
		l, problem := lock.Of(e, d.root)
		if problem != (api.Problem{}) {
			return console.Tell(problem)
		}
		d.locks[name] = l
		return saidOk
	})
}

// show gives a lock's text.
func (d *desk) show(name string) string {
	l, ok := d.locks[name]
	if !ok {
		return saidNone
	}
	return strings.TrimSuffix(lock.Print(l), "\n")
}

// check tells whether a lock holds for the root.
func (d *desk) check(name string) string {
	if !d.hasRoot {
		return saidNoRoot
	}
	l, ok := d.locks[name]
	switch {
	case !ok:
		return saidNone
	case lock.Holds(d.engine(), l):
		return "holds"
	}
	return "turned"
}

// diff tells what is another one in a lock than in another.
func (d *desk) diff(names ...string) string {
	if len(names) != 2 || !coord.IsId(names[0]) || !coord.IsId(names[1]) {
		return saidWhat
	}
	a, ok := d.locks[names[0]]
	b, both := d.locks[names[1]]
	if !ok || !both {
		return saidNone
	}
	return lined(diff.Tell(diff.Edits(a, b))...)
}

// tellPlan gives a line for each wave.
func tellPlan(e *engine.Engine) string {
	waves, all := plan.Of(e)
	var lines []string
	for _, wave := range waves {
		lines = append(lines, spaced(printItems(wave)...))
	}
	if !all {
		lines = append(lines, "round")
	}
	return lined(lines...)
}

// after gives a line for each item that is touched by that of a key.
func (d *desk) after(name string) string {
	k, e := coord.ParseKey(name)
	if e != api.OK {
		return saidWhat
	}
	return d.ask(func(e *engine.Engine) string {
		return lined(printItems(plan.After(e, k))...)
	})
}

// nearest tells the nearest choice that breaks no range.
func (d *desk) nearest() string {
	near, problem := nearest.Seek(d.Store(), model.New(d.Store()), d.root, d.most)
	if problem != (api.Problem{}) {
		return console.Tell(problem)
	}
	switch near.End {
	case api.Sat:
		return lined(append([]string{spaced("cost", strconv.Itoa(near.Cost))}, printItems(near.Items)...)...)
	case api.Unsat:
		return "never"
	}
	return saidOpen
}

// deal tells of the root's deal; a problem is told instead.
func (d *desk) deal(tell func(deal api.Deal) string) string {
	deal, problem := audit.Deal(d.Store(), model.New(d.Store()), d.root)
	if problem != (api.Problem{}) {
		return console.Tell(problem)
	}
	return tell(deal)
}

// wrong tells an error of the deal.
func (d *desk) wrong(e api.Errno) string {
	return console.Tell(api.Problem{Err: e, Gav: d.root, Where: "blame"})
}

// blame gives a line for each want that is to blame.
func (d *desk) blame(deal api.Deal) string {
	wants, end, e := core.Of(deal, d.most)
	switch {
	case e != api.OK:
		return d.wrong(e)
	case end == api.Open:
		return saidOpen
	case end == api.Sat:
		return "fine"
	}
	var lines []string
	for _, w := range wants {
		lines = append(lines, spaced(printItem(deal.Items[w[0]]), strconv.Itoa(w[1])))
	}
	return lined(lines...)
}

// question gives the text of the deal's question.
func (d *desk) question(deal api.Deal) string {
	q, e := cnf.Encode(deal)
	if e != api.OK {
		return d.wrong(e)
	}
	return strings.TrimSuffix(dimacs.Print(q), "\n")
}

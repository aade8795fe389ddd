package prop

import (
	"slices"
	"strings"
	"sync/atomic"

	"pomace/api"
)

// fault is what is wrong, and the name it was met with.
type fault struct {
	err  api.Errno
	name string
}

// Table puts properties in the place of their names. It remembers by a property's number where among the values its own one stands.
type Table struct {
	props  []api.Prop
	number map[string]int
	done   map[int]int
	values []string
	known  atomic.Int64
}

// New makes a table of properties.
func New(l []api.Prop) *Table {
	t := &Table{number: make(map[string]int), done: make(map[int]int)}
	for _, p := range l {
		if _, twice := t.number[p.Name]; !twice {
			t.number[p.Name] = len(t.props)
			t.props = append(t.props, p)
		}
	}
	return t
}

// caught gives the fault that a panic was.
func caught(wrong any) fault {
	f, ok := wrong.(fault)
	if !ok {
		panic(wrong)
	}
	return f
}

// Expand gives s with the values of its references in their place.
func (t *Table) Expand(s string) (text string, e api.Errno, name string) {
	defer func() {
		if wrong := recover(); wrong != nil {
			f := caught(wrong)
			text, e, name = "", f.err, f.name
		}
	}()
	return t.put(s, "", nil), api.OK, ""
}

// All gives each property with its value expanded.
func (t *Table) All() (list []api.Prop, e api.Errno, name string) {
	defer func() {
		if wrong := recover(); wrong != nil {
			f := caught(wrong)
			list, e, name = nil, f.err, f.name
		}
	}()
	if t == nil {
		return nil, api.OK, ""
	}
	for i, p := range t.props {
		list = append(list, api.Prop{Name: p.Name, Value: t.value(i, nil)})
	}
	return list, api.OK, ""
}

// Known tells how many values the table remembers.
func (t *Table) Known() int {
	if t == nil {
		return 0
	}
	return int(t.known.Load())
}

// lookup gives the number of the property of that name.
func (t *Table) lookup(name string) (int, bool) {
	if t == nil {
		return 0, false
	}
	i, ok := t.number[name]
	return i, ok
}

// put expands s, which is the value of the property owner, within the properties way.
func (t *Table) put(s, owner string, way []int) string {
	var b strings.Builder
	add := func(piece string) {
		if b.Len()+len(piece) > api.MaxValue {
			panic(fault{api.ErrBig, owner})
		}
		b.WriteString(piece)
	}
	for {
		ahead, name, rest, ok := cut(s)
		add(ahead)
		if !ok {
			return b.String()
		}
		if i, known := t.lookup(name); known {
			add(t.value(i, way))
		} else {
			add(refFront + name + refBack)
		}
		s = rest
	}
}

// value gives the value of the property number i, expanded, which is met within the properties way.
func (t *Table) value(i int, way []int) string {
	p := t.props[i]
	if slices.Contains(way, i) {
		panic(fault{api.ErrProp, p.Name})
	}
	if at, ok := t.done[i]; ok {
		return t.values[at]
	}
	if len(way) >= api.MaxChain {
		panic(fault{api.ErrBig, p.Name})
	}
	value := t.put(p.Value, p.Name, append(way, i))
	t.done[i] = len(t.values)
	t.values = append(t.values, value)
	t.known.Add(1)
	return value
}

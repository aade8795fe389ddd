package lock

import (
	"strconv"
	"strings"

	"pomace/api"
	"pomace/coord"
)

// reader takes a lock from its lines.
type reader struct {
	lock  api.Lock
	ended bool
}

// lines gives a function that takes line by line: the line, and whether it ends with a line end; false, if there is none.
func lines(s string) func() (text string, whole, ok bool) {
	return func() (text string, whole, ok bool) {
		if s == "" {
			return "", false, false
		}
		text, s, whole = strings.Cut(s, "\n")
		return text, whole, true
	}
}

// Parse reads a lock; with an error it tells the line.
func Parse(s string) (api.Lock, api.Errno, int) {
	next := lines(s)
	r := &reader{}
	for n := 1; ; n++ {
		text, whole, ok := next()
		if !ok && r.ended {
			return r.lock, api.OK, 0
		}
		if !ok || !r.take(n, text) {
			return api.Lock{}, api.ErrArg, n
		}
		if !whole {
			return api.Lock{}, api.ErrArg, n + 1
		}
	}
}

// take takes the line number n; false, if it can't stand there.
func (r *reader) take(n int, text string) bool {
	if n == 1 {
		return text == firstLine
	}
	words := strings.Split(text, " ")
	switch {
	case r.ended:
		return false
	case n == 2:
		return r.root(words...)
	case words[0] == wordPin:
		return r.pin(words...)
	}
	r.ended = text == wordEnd+" "+strconv.Itoa(len(r.lock.Pins))
	return r.ended
}

// root takes the line of the root.
func (r *reader) root(words ...string) bool {
	if len(words) != 2 || words[0] != wordRoot {
		return false
	}
	g, e := coord.ParseGav(words[1])
	r.lock.Root = g
	return e == api.OK
}

// pin takes the line of a pin.
func (r *reader) pin(words ...string) bool {
	n := len(r.lock.Pins)
	if len(words) != 4 || n >= api.MaxTree {
		return false
	}
	k, e := coord.ParseKey(words[1])
	scope, ok := coord.Scope(words[3])
	if e != api.OK || !ok {
		return false
	}
	r.lock.Pins = append(r.lock.Pins, api.Pin{Key: k, Version: words[2], Scope: scope})
	return mayPin(r.lock.Pins, n)
}

package cnf

import (
	"math/rand"
	"slices"
	"strconv"
	"testing"

	"pomace/api"
	"pomace/proof"
)

func item(a, v string) api.Item {
	return api.Item{Key: api.Key{Group: "g", Artifact: a, Type: "jar"}, Version: v}
}

func same(a, b [][]int) bool { return slices.EqualFunc(a, b, slices.Equal[[]int]) }

// example: a wants b 1 or b 2.
func example() api.Deal {
	return api.Deal{Items: []api.Item{item("a", "1"), item("b", "1"), item("b", "2")}, Wants: [][][]int{{{1, 2}}, nil, nil}}
}

// alone: n items with keys of their own.
func alone(n int) api.Deal {
	d := api.Deal{Wants: make([][][]int, n)}
	for i := range n {
		d.Items = append(d.Items, item("x"+strconv.Itoa(i), "1"))
	}
	return d
}

// P17.1: what may be a deal; what may not has no question.
func TestMay(t *testing.T) {
	with := func(change func(d *api.Deal)) api.Deal {
		d := example()
		change(&d)
		return d
	}
	for i, w := range []struct {
		d api.Deal
		e api.Errno
	}{
		{example(), api.OK}, {alone(1), api.OK}, {alone(api.MaxVars), api.OK}, {with(func(d *api.Deal) { d.Wants[2] = [][]int{nil, {0, 0, 2}}; d.Root = 2 }), api.OK},
		{alone(api.MaxVars + 1), api.ErrBig}, {api.Deal{Items: make([]api.Item, api.MaxVars+1), Root: -1}, api.ErrBig}, {api.Deal{}, api.ErrArg}, {with(func(d *api.Deal) { d.Root = 3 }), api.ErrArg}, {with(func(d *api.Deal) { d.Root = -1 }), api.ErrArg},
		{with(func(d *api.Deal) { d.Wants = d.Wants[:2] }), api.ErrArg}, {with(func(d *api.Deal) { d.Wants = append(d.Wants, nil) }), api.ErrArg}, {with(func(d *api.Deal) { d.Wants[1] = [][]int{{3}} }), api.ErrArg}, {with(func(d *api.Deal) { d.Wants[1] = [][]int{{0, -1}} }), api.ErrArg},
	} {
		if e := May(w.d); e != w.e {
			t.Error(i, e)
		}
		q, e := Encode(w.d)
		if e != w.e || e != api.OK && (q.Vars != 0 || len(q.Clauses) > 0) {
			t.Error(i, e)
		}
		if w.e != api.OK && (len(Taken(w.d, []bool{true, true, true})) > 0 || Right(w.d, []int{0}) || Right(w.d, nil)) {
			t.Error(i)
		}
	}
}

// P17.2: the clauses, in order.
func TestEncode(t *testing.T) {
	if q, e := Encode(example()); e != api.OK || q.Vars != 3 || !same(q.Clauses, [][]int{{1}, {-1, 2, 3}, {-2, -3}}) {
		t.Error(q, e)
	}
	d := api.Deal{Items: []api.Item{item("b", "1"), item("a", "1"), item("b", "1"), item("a", "2"), item("b", "2")}, Root: 3, Wants: [][][]int{{{4, 1, 1}, nil}, nil, {{2}}, {{0}, {1}}, nil}}
	want := [][]int{{4}, {-1, 5, 2, 2}, {-1}, {-3, 3}, {-4, 1}, {-4, 2}, {-1, -3}, {-1, -5}, {-2, -4}, {-3, -5}}
	if q, e := Encode(d); e != api.OK || q.Vars != 5 || !same(q.Clauses, want) {
		t.Error(q, e)
	}
}

// P17.2: questions that are as great as may be, and greater ones.
func TestBig(t *testing.T) {
	d := alone(1)
	d.Wants[0] = make([][]int, api.MaxCls-1)
	if q, e := Encode(d); e != api.OK || len(q.Clauses) != api.MaxCls {
		t.Error(e)
	}
	d.Wants[0] = make([][]int, api.MaxCls)
	if q, e := Encode(d); e != api.ErrBig || len(q.Clauses) > 0 {
		t.Error(e)
	}
	d.Wants[0] = [][]int{make([]int, 2*api.MaxVars-1)}
	if _, e := Encode(d); e != api.OK {
		t.Error(e)
	}
	d.Wants[0] = [][]int{make([]int, 2*api.MaxVars)}
	if q, e := Encode(d); e != api.ErrBig || q.Vars != 0 || len(q.Clauses) > 0 {
		t.Error(e)
	}
	// 181 of a key make 16290 clauses, 182 make 16471
	for n, want := range map[int]api.Errno{181: api.OK, 182: api.ErrBig, 1024: api.ErrBig} {
		if _, e := Encode(api.Deal{Items: make([]api.Item, n), Wants: make([][][]int, n)}); e != want {
			t.Error(n, e)
		}
	}
}

// P17.3: what is taken, and what is right.
func TestTaken(t *testing.T) {
	d := example()
	for i, w := range []struct {
		truths []bool
		want   []int
	}{
		{[]bool{true, true, true}, []int{0, 1, 2}}, {[]bool{true, false, true}, []int{0, 2}}, {[]bool{true}, []int{0}}, {[]bool{false, true, true}, nil}, {nil, nil}, {[]bool{true, false, true, true, true}, []int{0, 2}},
	} {
		if got := Taken(d, w.truths); !slices.Equal(got, w.want) {
			t.Error(i, got)
		}
	}
	far := alone(5)
	far.Root = 2
	far.Wants = [][][]int{nil, {{0}, {4}}, {{1, 3}}, {{2}}, nil}
	if got := Taken(far, []bool{true, true, true, false, true}); !slices.Equal(got, []int{0, 1, 2, 4}) {
		t.Error(got)
	}
	if got := Taken(far, []bool{true, false, true, true, true}); !slices.Equal(got, []int{2, 3}) {
		t.Error(got)
	}
	for i, w := range []struct {
		taken []int
		want  bool
	}{
		{[]int{0, 1}, true}, {[]int{2, 0}, true}, {[]int{0, 1, 0, 1}, true}, {[]int{0, 1, 2}, false}, {[]int{0}, false}, {[]int{1}, false}, {nil, false}, {[]int{0, 1, 3}, false}, {[]int{0, 1, -1}, false},
	} {
		if Right(d, w.taken) != w.want {
			t.Error(i)
		}
	}
	d.Wants[1] = [][]int{nil}
	if Right(d, []int{0, 1}) || !Right(d, []int{0, 2}) {
		t.Error("a want of nothing")
	}
}

func some(r *rand.Rand) api.Deal {
	var d api.Deal
	n := 1 + r.Intn(7)
	for i := range n {
		d.Items = append(d.Items, item(string("abcd"[r.Intn(4)]), strconv.Itoa(i)))
		var wants [][]int
		for range r.Intn(3) {
			var want []int
			for range r.Intn(4) {
				want = append(want, r.Intn(n))
			}
			wants = append(wants, want)
		}
		d.Wants = append(d.Wants, wants)
	}
	d.Root = r.Intn(n)
	return d
}

// P17.4, P17.5: truths make all clauses true just if what they take is right; of that what is needed is right, too.
func TestFollows(t *testing.T) {
	r := rand.New(rand.NewSource(35))
	for range 3000 {
		d := some(r)
		q, e := Encode(d)
		if e != api.OK {
			t.Fatal(d, e)
		}
		for bits := range 1 << len(d.Items) {
			var truths []bool
			var all []int
			for v := range d.Items {
				truths = append(truths, bits>>v&1 == 1)
				if truths[v] {
					all = append(all, v)
				}
			}
			good := proof.Holds(q, truths) < 0
			if good != Right(d, all) {
				t.Fatal(d, truths)
			}
			taken := Taken(d, truths)
			if good && !Right(d, taken) || !slices.IsSorted(taken) {
				t.Fatal(d, truths, taken)
			}
			for _, n := range taken {
				wanted := n == d.Root
				for _, m := range taken {
					for _, want := range d.Wants[m] {
						wanted = wanted || slices.Contains(want, n)
					}
				}
				if !wanted || !truths[n] {
					t.Fatal(d, truths, taken)
				}
			}
		}
	}
}

package core

import (
	"math/rand"
	"slices"
	"strconv"
	"testing"

	"pomace/api"
	"pomace/cnf"
	"pomace/proof"
	"pomace/sat"
)

func item(a, v string) api.Item {
	return api.Item{Key: api.Key{Group: "g", Artifact: a, Type: "jar"}, Version: v}
}

// example: a wants b 1 and c 1; b wants d 1; c wants d 2.
func example() api.Deal {
	return api.Deal{
		Items: []api.Item{item("a", "1"), item("b", "1"), item("c", "1"), item("d", "1"), item("d", "2")},
		Wants: [][][]int{{{1}, {2}}, {{3}}, {{4}}, nil, nil},
	}
}

func same(a, b api.Deal) bool {
	return slices.Equal(a.Items, b.Items) && a.Root == b.Root && slices.EqualFunc(a.Wants, b.Wants, func(x, y [][]int) bool {
		return slices.EqualFunc(x, y, slices.Equal[[]int])
	})
}

// P27.1: wants by name, and deals with some alone.
func TestOnly(t *testing.T) {
	d := example()
	if got := All(d); !slices.Equal(got, [][2]int{{0, 0}, {0, 1}, {1, 0}, {2, 0}}) || len(All(api.Deal{})) > 0 {
		t.Error(got)
	}
	if !same(Only(d, All(d)), d) {
		t.Error("all")
	}
	want := example()
	want.Wants = [][][]int{{{2}}, nil, {{4}}, nil, nil}
	got := Only(d, [][2]int{{2, 0}, {0, 1}, {0, 1}, {0, 2}, {9, 0}, {-1, 0}, {3, 0}})
	if !same(got, want) {
		t.Error(got)
	}
	got.Items[0].Version, got.Wants[0][0][0] = "9", 9
	if !same(d, example()) {
		t.Error("shared")
	}
	twice := api.Deal{Items: []api.Item{item("a", "1")}, Wants: [][][]int{{{0}, {}, {0, 0}}}}
	if got := Only(twice, [][2]int{{0, 2}, {0, 1}}); !same(got, api.Deal{Items: twice.Items, Wants: [][][]int{{{}, {0, 0}}}}) {
		t.Error(got)
	}
}

// P27.2: what is to blame.
func TestOf(t *testing.T) {
	fine := example()
	fine.Wants[2] = nil
	two := example()
	two.Wants[0] = append([][]int{{}}, two.Wants[0]...)
	big := api.Deal{Items: make([]api.Item, 1025)}
	for i, w := range []struct {
		d    api.Deal
		most int
		want [][2]int
		end  int
		e    api.Errno
	}{
		{example(), 1000, [][2]int{{0, 0}, {0, 1}, {1, 0}, {2, 0}}, api.Unsat, api.OK}, {fine, 1000, nil, api.Sat, api.OK}, {fine, 0, nil, api.Sat, api.OK}, {example(), 0, nil, api.Open, api.OK}, {two, 1000, [][2]int{{0, 1}, {0, 2}, {1, 0}, {2, 0}}, api.Unsat, api.OK},
		{big, -1, nil, 0, api.ErrBig}, {api.Deal{}, 9, nil, 0, api.ErrArg}, {example(), -1, nil, 0, api.ErrArg},
	} {
		if got, end, e := Of(w.d, w.most); !slices.Equal(got, w.want) || end != w.end || e != w.e {
			t.Error(i, got, end, e)
		}
	}
}

// P27.3: rows of wants.
func TestHits(t *testing.T) {
	d := example()
	d.Wants[0] = append(d.Wants[0], []int{}, []int{})
	all := [][][2]int{{{0, 3}}, {{0, 2}}, {{0, 0}, {0, 1}, {1, 0}, {2, 0}}}
	for i, w := range []struct {
		d           api.Deal
		most, limit int
		want        [][][2]int
		end         int
		e           api.Errno
	}{
		{d, 1000, 99, all, api.Unsat, api.OK}, {d, 1000, 3, all, api.Unsat, api.OK}, {d, 1000, 2, all[:2], api.Unsat, api.OK}, {d, 1000, 1, all[:1], api.Unsat, api.OK}, {d, 1000, 0, nil, api.Unsat, api.OK}, {d, 0, 0, nil, api.Open, api.OK}, {d, 0, 9, nil, api.Open, api.OK},
		{api.Deal{Items: d.Items[:1], Wants: [][][]int{nil}}, 0, 0, nil, api.Sat, api.OK}, {api.Deal{Items: d.Items[:1], Wants: [][][]int{nil}}, 0, 9, nil, api.Sat, api.OK},
		{d, -1, 9, nil, 0, api.ErrArg}, {d, 9, -1, nil, 0, api.ErrArg}, {api.Deal{}, 9, 9, nil, 0, api.ErrArg}, {api.Deal{Items: make([]api.Item, 1025)}, -1, -1, nil, 0, api.ErrBig},
	} {
		got, end, e := Hits(w.d, w.most, w.limit)
		if !slices.EqualFunc(got, w.want, slices.Equal[[][2]int]) || end != w.end || e != w.e {
			t.Error(i, got, end, e)
		}
	}
}

func some(r *rand.Rand) api.Deal {
	var d api.Deal
	n := 2 + r.Intn(7)
	for i := range n {
		d.Items = append(d.Items, item(string("abcd"[r.Intn(4)]), strconv.Itoa(i)))
		var wants [][]int
		for range r.Intn(3) {
			var want []int
			for range 1 + r.Intn(2) {
				want = append(want, r.Intn(n))
			}
			wants = append(wants, want)
		}
		d.Wants = append(d.Wants, wants)
	}
	d.Root = r.Intn(n)
	return d
}

// can: can the deal be?
func can(t *testing.T, d api.Deal) bool {
	q, _ := cnf.Encode(d)
	a, e := sat.Solve(q, 1<<30)
	if e != api.OK || !proof.Right(q, a) {
		t.Fatal(d, e)
	}
	return a.End == api.Sat
}

// P27.4, P27.5: what is to blame can't be, without any one of it it can; rows differ.
func TestFollows(t *testing.T) {
	r := rand.New(rand.NewSource(41))
	blamed, rowsSeen := 0, 0
	for range 3000 {
		d := some(r)
		row, end, e := Of(d, 1<<30)
		if e != api.OK || (end == api.Sat) != can(t, d) || (len(row) > 0) != (end == api.Unsat) {
			t.Fatal(d, row, end, e)
		}
		if end == api.Sat {
			continue
		}
		blamed++
		rows, end, e := Hits(d, 1<<30, 5)
		if e != api.OK || end != api.Unsat || !slices.Equal(rows[0], row) {
			t.Fatal(rows, row)
		}
		left := All(d)
		for i, row := range rows {
			rowsSeen += min(i, 1)
			if can(t, Only(d, row)) {
				t.Fatal(d, row)
			}
			for k, w := range row {
				if !slices.Contains(left, w) || !can(t, Only(d, slices.Delete(slices.Clone(row), k, k+1))) {
					t.Fatal(d, row)
				}
			}
			left = slices.DeleteFunc(left, func(w [2]int) bool { return w == row[0] })
		}
		if len(rows) < 5 && !can(t, Only(d, left)) {
			t.Fatal(d, rows)
		}
	}
	if blamed < 200 || rowsSeen < 20 {
		t.Error(blamed, rowsSeen)
	}
}

package clock

import (
	"math"
	"math/rand"
	"slices"
	"testing"

	"trug/api"
)

// someVectors is vectors of few numbers at few nodes, so that they often cover each other, and some at the edges.
func someVectors(r *rand.Rand, n int) []api.Vector {
	l := []api.Vector{{}, {1}, {0, 1}, {11: 1}, {api.MaxCount}, {math.MaxUint32}, {11: math.MaxUint32}}
	for range n {
		var v api.Vector
		for range r.Intn(4) {
			v[r.Intn(len(v))] = uint32(r.Intn(3))
		}
		l = append(l, v)
	}
	return l
}

// noDots is dots that may not be.
func noDots() []Dot {
	return []Dot{{}, {Node: 0, N: 1}, {Node: -1, N: 1}, {Node: 13, N: 1}, {Node: math.MaxInt, N: 1}, {Node: math.MinInt, N: 1},
		{Node: 1, N: 0}, {Node: 12, N: 0}, {Node: 1, N: api.MaxCount + 1}, {Node: 1, N: math.MaxUint32}}
}

func noNodes() []int { return []int{0, -1, 13, math.MaxInt, math.MinInt, 1 << 32, 1<<32 + 1} }

// TestRight: P4.1, which dots may be.
func TestRight(t *testing.T) {
	for node := range api.MaxNodes {
		for _, n := range []uint32{1, 2, api.MaxCount - 1, api.MaxCount} {
			if !Right(Dot{Node: node + 1, N: n}) {
				t.Errorf("Right(%d, %d): false", node+1, n)
			}
		}
	}
	for _, d := range noDots() {
		if Right(d) {
			t.Errorf("Right(%v): true", d)
		}
	}
}

// TestGet: P4.1, the number of each node, 0 of no node.
func TestGet(t *testing.T) {
	v := api.Vector{5, 0, 7, 11: math.MaxUint32}
	for i, n := range v {
		if got := Get(v, i+1); got != n {
			t.Errorf("Get of %d: %d, not %d", i+1, got, n)
		}
	}
	v = api.Vector{1, 1, 1, 1, 1, 1, 1, 1, 1, 1, 1, 1}
	for _, node := range noNodes() {
		if Get(v, node) != 0 {
			t.Errorf("Get of %d: %d", node, Get(v, node))
		}
	}
}

// TestWith: P4.1, at least as many, and of that node alone.
func TestWith(t *testing.T) {
	v := api.Vector{3, 0, 5}
	for _, x := range []struct {
		d    Dot
		want api.Vector
	}{
		{Dot{Node: 1, N: 4}, api.Vector{4, 0, 5}},
		{Dot{Node: 1, N: 3}, v},
		{Dot{Node: 1, N: 1}, v},
		{Dot{Node: 2, N: 9}, api.Vector{3, 9, 5}},
		{Dot{Node: 12, N: api.MaxCount}, api.Vector{0: 3, 2: 5, 11: api.MaxCount}},
	} {
		if got := With(v, x.d); got != x.want {
			t.Errorf("With(%v): %v, not %v", x.d, got, x.want)
		}
	}
	for _, d := range noDots() {
		if got := With(v, d); got != v {
			t.Errorf("With(%v): %v", d, got)
		}
	}
	if v != (api.Vector{3, 0, 5}) {
		t.Errorf("the vector is changed: %v", v)
	}
}

// TestJoinMeet: P4.1, known joins and meets.
func TestJoinMeet(t *testing.T) {
	a, b := api.Vector{1, 0, 2}, api.Vector{0, 3}
	if got := Join(a, b); got != (api.Vector{1, 3, 2}) {
		t.Errorf("Join: %v", got)
	}
	if got := Join(a, b, api.Vector{11: 4}, api.Vector{9}); got != (api.Vector{0: 9, 1: 3, 2: 2, 11: 4}) {
		t.Errorf("Join of four: %v", got)
	}
	if Join() != (api.Vector{}) || Join(nil...) != (api.Vector{}) || Join(a) != a {
		t.Errorf("Join of none, of one: %v, %v", Join(), Join(a))
	}
	if Meet(a, b) != (api.Vector{}) || Meet(a, api.Vector{5, 5, 1, 5}) != (api.Vector{1, 0, 1}) {
		t.Errorf("Meet: %v, %v", Meet(a, b), Meet(a, api.Vector{5, 5, 1, 5}))
	}
	high := api.Vector{math.MaxUint32, api.MaxCount}
	if Join(high, a) != (api.Vector{math.MaxUint32, api.MaxCount, 2}) || Meet(high, high) != high {
		t.Errorf("at the edge: %v, %v", Join(high, a), Meet(high, high))
	}
}

// TestJoinKeep: what is handed in stays as it was, and what lies behind it plays no part.
func TestJoinKeep(t *testing.T) {
	l := []api.Vector{{1}, {0, 2}, {9, 9, 9}}
	if got := Join(l[:2]...); got != (api.Vector{1, 2}) {
		t.Errorf("Join of a part: %v", got)
	}
	if !slices.Equal(l, []api.Vector{{1}, {0, 2}, {9, 9, 9}}) {
		t.Errorf("the list is changed: %v", l)
	}
}

// covers is by the words of the document, node by node.
func covers(a, b api.Vector) bool {
	for i := range a {
		if a[i] < b[i] {
			return false
		}
	}
	return true
}

// TestCovers: P4.1, Covers and Order of many pairs.
func TestCovers(t *testing.T) {
	l := someVectors(rand.New(rand.NewSource(1)), 80)
	for _, a := range l {
		for _, b := range l {
			if Covers(a, b) != covers(a, b) {
				t.Fatalf("Covers(%v, %v): %v", a, b, Covers(a, b))
			}
			want := 2
			switch {
			case a == b:
				want = 0
			case covers(a, b):
				want = 1
			case covers(b, a):
				want = -1
			}
			if got := Order(a, b); got != want {
				t.Fatalf("Order(%v, %v): %d, not %d", a, b, got, want)
			}
		}
	}
}

// TestOrderKnown: P4.1, one pair of each kind, at the first node and at the last.
func TestOrderKnown(t *testing.T) {
	one, two, last := api.Vector{1}, api.Vector{2}, api.Vector{11: 1}
	for _, x := range []struct {
		a, b api.Vector
		want int
	}{
		{api.Vector{}, api.Vector{}, 0}, {one, one, 0}, {two, one, 1}, {one, two, -1}, {one, last, 2}, {last, one, 2},
		{last, api.Vector{}, 1}, {api.Vector{}, last, -1}, {api.Vector{2, 1}, api.Vector{1, 2}, 2}, {api.Vector{1, 2}, one, 1},
	} {
		if got := Order(x.a, x.b); got != x.want {
			t.Errorf("Order(%v, %v): %d, not %d", x.a, x.b, got, x.want)
		}
	}
}

// TestHas: P4.1, which dots a vector covers.
func TestHas(t *testing.T) {
	v := api.Vector{3, 0, 1, 11: math.MaxUint32}
	for node := range api.MaxNodes {
		for _, n := range []uint32{1, 2, 3, 4, api.MaxCount} {
			if got := Has(v, Dot{Node: node + 1, N: n}); got != (v[node] >= n) {
				t.Errorf("Has(%d, %d): %v", node+1, n, got)
			}
		}
	}
	full := api.Vector{}
	for i := range full {
		full[i] = math.MaxUint32
	}
	for _, d := range noDots() {
		if Has(full, d) {
			t.Errorf("Has(%v): true", d)
		}
	}
}

// TestNext: P4.1, the next dot, or why there is none.
func TestNext(t *testing.T) {
	v := api.Vector{3, 0, api.MaxCount - 1, api.MaxCount, api.MaxCount + 1, math.MaxUint32}
	for _, x := range []struct {
		node int
		n    uint32
		want api.Errno
	}{
		{1, 4, api.OK}, {2, 1, api.OK}, {3, api.MaxCount, api.OK}, {12, 1, api.OK},
		{4, 0, api.ErrFull}, {5, 0, api.ErrFull}, {6, 0, api.ErrFull},
	} {
		want := Dot{}
		if x.want == api.OK {
			want = Dot{Node: x.node, N: x.n}
		}
		if d, e := Next(v, x.node); d != want || e != x.want {
			t.Errorf("Next of %d: %v, %v", x.node, d, e)
		}
	}
	for _, node := range noNodes() {
		if d, e := Next(v, node); d != (Dot{}) || e != api.ErrNode {
			t.Errorf("Next of %d: %v, %v", node, d, e)
		}
	}
}

// TestNextWith: P4.1, the next dot is one that may be, that is not there, and that is the least such.
func TestNextWith(t *testing.T) {
	for _, v := range someVectors(rand.New(rand.NewSource(2)), 50) {
		for node := 1; node <= api.MaxNodes; node++ {
			d, e := Next(v, node)
			if e != api.OK {
				continue
			}
			w := With(v, d)
			if !Right(d) || Has(v, d) || !Has(w, d) || Count(w) != Count(v)+1 || Order(w, v) != 1 {
				t.Fatalf("Next of %d of %v: %v", node, v, d)
			}
		}
	}
}

// TestCount: P4.1, how many in all, more than a number of a vector can tell.
func TestCount(t *testing.T) {
	full := api.Vector{}
	for i := range full {
		full[i] = math.MaxUint32
	}
	if Count(api.Vector{}) != 0 || Count(api.Vector{3, 0, 4, 11: 5}) != 12 || Count(full) != 12*math.MaxUint32 {
		t.Errorf("Count: %d, %d, %d", Count(api.Vector{}), Count(api.Vector{3, 0, 4, 11: 5}), Count(full))
	}
}

// TestLattice: P4.2, Join is the least that covers both, Meet the greatest that both cover, in any order.
func TestLattice(t *testing.T) {
	l := someVectors(rand.New(rand.NewSource(3)), 40)
	for _, a := range l {
		for _, b := range l {
			j, m := Join(a, b), Meet(a, b)
			if !covers(j, a) || !covers(j, b) || !covers(a, m) || !covers(b, m) {
				t.Fatalf("of %v and %v: Join %v, Meet %v", a, b, j, m)
			}
			if j != Join(b, a) || m != Meet(b, a) || Join(a, m) != a || Meet(a, j) != a || Join(a, a) != a {
				t.Fatalf("of %v and %v: Join %v, Meet %v", a, b, j, m)
			}
			for _, c := range l {
				if covers(c, a) && covers(c, b) && !covers(c, j) || covers(a, c) && covers(b, c) && !covers(m, c) {
					t.Fatalf("of %v and %v: Join %v, Meet %v, and %v between", a, b, j, m, c)
				}
				if Join(a, b, c) != Join(Join(c, a), b) || Meet(Meet(a, b), c) != Meet(a, Meet(b, c)) {
					t.Fatalf("of three: %v, %v, %v", a, b, c)
				}
			}
		}
	}
}

// TestDots: P4.3, a vector covers another one just if it covers all its dots.
func TestDots(t *testing.T) {
	var l []api.Vector
	for _, v := range someVectors(rand.New(rand.NewSource(4)), 80) {
		if Count(v) < 100 {
			l = append(l, v)
		}
	}
	for _, a := range l {
		for _, b := range l {
			all := true
			for i, n := range b {
				for k := range n {
					all = all && Has(a, Dot{Node: i + 1, N: k + 1})
				}
			}
			if Covers(a, b) != all {
				t.Fatalf("Covers(%v, %v): %v", a, b, Covers(a, b))
			}
		}
	}
}

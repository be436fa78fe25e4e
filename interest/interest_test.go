package interest

import (
	"math"
	"math/rand"
	"slices"
	"testing"

	"trug/tree"
)

// kinds is kinds of nodes, the first one being the node 1.
func kinds(list ...int) (k [12]int) {
	copy(k[:], list)
	return k
}

// small is the document's example.
func small() tree.Tree {
	return tree.Tree{Kinds: kinds(1, 2, 3), Edges: []tree.Edge{{A: 1, B: 3}, {A: 2, B: 3}}}
}

// great is a tree of all nodes: the serializers 2, 7, 9 and 11 in a row; the homes 1 at 2, 12 at 7, and 3 at 11; shards at each.
func great() tree.Tree {
	return tree.Tree{Kinds: kinds(1, 3, 1, 2, 2, 2, 3, 2, 3, 2, 3, 1), Edges: []tree.Edge{
		{A: 7, B: 2}, {A: 9, B: 7}, {A: 9, B: 11}, {A: 1, B: 2}, {A: 3, B: 11}, {A: 12, B: 7},
		{A: 2, B: 4}, {A: 5, B: 2}, {A: 6, B: 7}, {A: 8, B: 9}, {A: 11, B: 10},
	}}
}

// round is a tree that may not be: the serializers 1, 2, 3 in a ring, a home at each, and a home 7 at two of them.
func round() tree.Tree {
	return tree.Tree{Kinds: kinds(3, 3, 3, 1, 1, 1, 1), Edges: []tree.Edge{
		{A: 1, B: 2}, {A: 2, B: 3}, {A: 3, B: 1}, {A: 4, B: 1}, {A: 5, B: 2}, {A: 6, B: 3}, {A: 7, B: 1}, {A: 2, B: 7},
	}}
}

// numbers is all nodes, and numbers that are none.
func numbers() []int {
	list := []int{0, -1, 13, math.MinInt, math.MaxInt, 1<<32 + 1, 1<<32 + 3}
	for n := 1; n <= 12; n++ {
		list = append(list, n)
	}
	return list
}

// carts is all carts, and numbers that are none.
func carts() []int {
	list := []int{0, -1, -5, math.MinInt, math.MaxInt, math.MaxInt - 1, 13, 14, 1<<32 + 1}
	for n := 1; n <= 12; n++ {
		list = append(list, n)
	}
	return list
}

// joined tells by the words of the document whether there is an edge between two nodes.
func joined(t tree.Tree, a, b int) bool {
	there := func(n int) bool { return n >= 1 && n <= 12 && t.Kinds[n-1] >= 1 && t.Kinds[n-1] <= 3 }
	return a != b && there(a) && there(b) && (slices.Contains(t.Edges, tree.Edge{A: a, B: b}) || slices.Contains(t.Edges, tree.Edge{A: b, B: a}))
}

// isHome tells by the words of the document whether a node is one of a cart's homes.
func isHome(t tree.Tree, node, cart int) bool {
	var homes []int
	for i, kind := range t.Kinds {
		if kind == 1 {
			homes = append(homes, i+1)
		}
	}
	i := slices.Index(homes, node)
	h := len(homes)
	return i >= 0 && cart >= 1 && (h == 1 || cart%h == i || (cart%h+1)%h == i)
}

// wantWants tells by the words of the document whether one of the cart's homes is beyond a neighbour: it walks on, and never through the node.
func wantWants(t tree.Tree, node, next, cart int) bool {
	if !joined(t, node, next) {
		return false
	}
	been := map[int]bool{node: true}
	var walk func(n int) bool
	walk = func(n int) bool {
		if been[n] {
			return false
		}
		been[n] = true
		found := isHome(t, n, cart)
		for m := 1; m <= 12; m++ {
			if joined(t, n, m) && walk(m) {
				found = true
			}
		}
		return found
	}
	return walk(next)
}

// wantToward is by the words of the document where a label goes.
func wantToward(t tree.Tree, node, from, cart int) []int {
	var out []int
	for n := 1; n <= 12; n++ {
		if n != from && wantWants(t, node, n, cart) {
			out = append(out, n)
		}
	}
	return out
}

// wantReach is by the words of the document the nodes to which a label comes: those that are one step away, then those that are two, and so on.
func wantReach(t tree.Tree, start, cart int) []int {
	var out []int
	level := [][2]int{{0, start}}
	for len(level) > 0 {
		var further [][2]int
		for _, x := range level {
			for _, n := range wantToward(t, x[1], x[0], cart) {
				out = append(out, n)
				further = append(further, [2]int{x[1], n})
			}
		}
		level = further
	}
	return out
}

// grown is a tree that may be, of so many nodes of the twelve.
func grown(r *rand.Rand, size int) tree.Tree {
	var x tree.Tree
	var serializers []int
	for i, at := range r.Perm(12)[:size] {
		n := at + 1
		kind := []int{1, 1, 2, 3, 3}[r.Intn(5)]
		if i == 0 {
			kind = 3
		}
		x.Kinds[n-1] = kind
		if i > 0 {
			e := tree.Edge{A: n, B: serializers[r.Intn(len(serializers))]}
			if r.Intn(2) == 0 {
				e = tree.Edge{A: e.B, B: e.A}
			}
			x.Edges = slices.Insert(x.Edges, r.Intn(len(x.Edges)+1), e)
		}
		if kind == 3 {
			serializers = append(serializers, n)
		}
	}
	return x
}

// spoilt is a tree to which edges were added, or of which kinds were changed.
func spoilt(r *rand.Rand, x tree.Tree) tree.Tree {
	x.Edges = slices.Clone(x.Edges)
	for range 1 + r.Intn(4) {
		if r.Intn(3) == 0 {
			x.Kinds[r.Intn(12)] = []int{0, 1, 2, 3, 4, -1, 1<<32 + 1}[r.Intn(7)]
		} else {
			x.Edges = append(x.Edges, tree.Edge{A: r.Intn(14), B: 1 + r.Intn(12)})
		}
	}
	return x
}

// TestWantsKnown: P19.1, what is known.
func TestWantsKnown(t *testing.T) {
	for _, c := range []struct {
		t                tree.Tree
		node, next, cart int
		want             bool
	}{
		{small(), 3, 1, 1, true}, {small(), 3, 2, 1, false}, {small(), 2, 3, 1, true},
		{small(), 1, 3, 1, false},                             // the cart's home itself: none is beyond
		{small(), 3, 1, 0, false}, {small(), 3, 1, -1, false}, // no cart
		{small(), 3, 1, 13, true},                            // there is one home: of all
		{small(), 2, 1, 1, false}, {small(), 3, 3, 1, false}, // no edge
		{small(), 0, 3, 1, false}, {small(), 3, 0, 1, false}, {small(), 13, 3, 1, false}, {small(), 3, 13, 1, false},
		{great(), 2, 1, 1, false}, {great(), 2, 7, 1, true}, // the cart 1 has the homes 3 and 12
		{great(), 2, 1, 2, true}, {great(), 2, 7, 2, true}, // 12 and 1
		{great(), 7, 9, 2, false}, {great(), 7, 9, 3, true}, // 1 and 3
		{great(), 7, 12, 3, false}, {great(), 7, 2, 3, true},
		{great(), 7, 2, 1, false}, {great(), 9, 7, 1, true}, {great(), 9, 8, 1, false},
		{round(), 1, 2, 1, true}, // 5 and 6, of the homes 4, 5, 6, 7
		{round(), 1, 3, 1, true}, {round(), 1, 7, 1, true}, {round(), 1, 4, 1, false},
		{round(), 5, 2, 1, true}, {round(), 2, 5, 1, true}, {round(), 2, 5, 3, false},
	} {
		if got := Wants(c.t, c.node, c.next, c.cart); got != c.want {
			t.Errorf("Wants of %d through %d, cart %d: %t", c.node, c.next, c.cart, got)
		}
	}
}

// TestTowardKnown: P19.1, where labels go, but back; rising, whatever the order of the edges.
func TestTowardKnown(t *testing.T) {
	for _, c := range []struct {
		t                tree.Tree
		node, from, cart int
		want             []int
	}{
		{small(), 2, 0, 1, []int{3}}, {small(), 3, 2, 1, []int{1}}, {small(), 3, 0, 1, []int{1}},
		{small(), 3, 1, 1, nil}, {small(), 1, 3, 1, nil}, {small(), 1, 0, 1, nil}, {small(), 2, 3, 1, nil},
		{small(), 3, 2, 0, nil}, {small(), 3, 2, -1, nil}, {small(), 0, 0, 1, nil}, {small(), 13, 0, 1, nil},
		{small(), 3, 7, 1, []int{1}}, {small(), 3, -1, 1, []int{1}}, // from one that is no neighbour
		{great(), 7, 2, 1, []int{9, 12}}, {great(), 7, 0, 1, []int{9, 12}}, {great(), 7, 9, 1, []int{12}},
		{great(), 7, 6, 3, []int{2, 9}}, {great(), 7, 12, 2, []int{2}}, {great(), 1, 0, 3, []int{2}}, {great(), 1, 0, 1, []int{2}},
		{great(), 2, 1, 2, []int{7}}, {great(), 2, 4, 2, []int{1, 7}}, {great(), 11, 9, 3, []int{3}}, {great(), 11, 3, 3, []int{9}},
		{round(), 1, 0, 1, []int{2, 3, 7}}, {round(), 1, 3, 1, []int{2, 7}}, {round(), 1, 4, 4, []int{2, 3, 7}}, {round(), 1, 0, 4, []int{2, 3, 4, 7}},
	} {
		if got := Toward(c.t, c.node, c.from, c.cart); !slices.Equal(got, c.want) {
			t.Errorf("Toward from %d, that came from %d, cart %d: %v, not %v", c.node, c.from, c.cart, got, c.want)
		}
	}
}

// TestReachKnown: P19.1, the order in which a label comes: the nodes next to it first, wherever it goes on from there.
func TestReachKnown(t *testing.T) {
	for _, c := range []struct {
		t           tree.Tree
		start, cart int
		want        []int
	}{
		{small(), 2, 1, []int{3, 1}}, {small(), 3, 1, []int{1}}, {small(), 1, 1, nil}, {small(), 2, 5, []int{3, 1}},
		{small(), 2, 0, nil}, {small(), 0, 1, nil}, {small(), 4, 1, nil}, {small(), 13, 1, nil}, {small(), -1, -1, nil},
		{great(), 4, 1, []int{2, 7, 9, 12, 11, 3}}, {great(), 10, 2, []int{11, 9, 7, 2, 12, 1}}, {great(), 8, 3, []int{9, 7, 11, 2, 3, 1}},
		{great(), 3, 3, []int{11, 9, 7, 2, 1}}, {great(), 1, 1, []int{2, 7, 9, 12, 11, 3}}, {great(), 12, 2, []int{7, 2, 1}},
		{great(), 7, 3, []int{2, 9, 1, 11, 3}}, {great(), 4, 13, []int{2, 7, 9, 12, 11, 3}},
		{round(), 1, 1, nil}, {round(), 5, 1, nil}, // it would go round without end
		{tree.Tree{}, 1, 1, nil},
		{tree.Tree{Kinds: kinds(3)}, 1, 1, nil},
		{tree.Tree{Kinds: kinds(1, 2)}, 2, 1, nil},
		{tree.Tree{Kinds: kinds(1, 2), Edges: []tree.Edge{{A: 1, B: 2}}}, 2, 1, nil},                        // no serializer
		{tree.Tree{Kinds: kinds(1, 2, 3, 4), Edges: small().Edges}, 2, 1, nil},                              // no kind
		{tree.Tree{Kinds: kinds(1, 2, 3), Edges: append(small().Edges, tree.Edge{A: 3, B: 2})}, 2, 1, nil},  // an edge twice
		{tree.Tree{Kinds: kinds(1, 2, 3), Edges: append(small().Edges, tree.Edge{A: 13, B: 3})}, 2, 1, nil}, // an edge with no node
		{tree.Tree{Kinds: kinds(2, 2, 3), Edges: []tree.Edge{{A: 1, B: 3}, {A: 2, B: 3}}}, 2, 1, nil},       // no home
	} {
		if got := Reach(c.t, c.start, c.cart); !slices.Equal(got, c.want) {
			t.Errorf("Reach from %d, cart %d of %v: %v, not %v", c.start, c.cart, c.t, got, c.want)
		}
	}
}

// asks asks all that is told of a tree.
func asks(t *testing.T, x tree.Tree, cart int) {
	t.Helper()
	for _, node := range numbers() {
		for _, next := range numbers() {
			if got, want := Wants(x, node, next, cart), wantWants(x, node, next, cart); got != want {
				t.Fatalf("Wants(%v, %d, %d, %d): %t", x, node, next, cart, got)
			}
			if got, want := Toward(x, node, next, cart), wantToward(x, node, next, cart); !slices.Equal(got, want) {
				t.Fatalf("Toward(%v, %d, %d, %d): %v, not %v", x, node, next, cart, got, want)
			}
		}
		var want []int
		if tree.Right(x) {
			want = wantReach(x, node, cart)
		}
		if got := Reach(x, node, cart); !slices.Equal(got, want) {
			t.Fatalf("Reach(%v, %d, %d): %v, not %v", x, node, cart, got, want)
		}
	}
}

// TestAny: P19.1, all that is asked of many trees, of which some may not be.
func TestAny(t *testing.T) {
	for _, cart := range carts() {
		asks(t, small(), cart)
		asks(t, great(), cart)
		asks(t, round(), cart)
	}
	r := rand.New(rand.NewSource(1))
	wrong := 0
	for range 150 {
		x := grown(r, 1+r.Intn(12))
		cart := carts()[r.Intn(len(carts()))]
		asks(t, x, cart)
		x = spoilt(r, x)
		if !tree.Right(x) {
			wrong++
		}
		asks(t, x, cart)
	}
	if wrong < 80 {
		t.Errorf("just %d may not be: of little worth", wrong)
	}
}

// TestOnce: P19.2 and P19.3, of a tree that may be a label comes to each home of the cart but its own node, to no node twice, and just where it must.
func TestOnce(t *testing.T) {
	r := rand.New(rand.NewSource(2))
	for range 300 {
		x := grown(r, 2+r.Intn(11))
		for start := 1; start <= 12; start++ {
			cart := 1 + r.Intn(12)
			got := Reach(x, start, cart)
			for n := 1; n <= 12; n++ {
				must := onWay(x, start, n, cart)
				came := 0
				for _, m := range got {
					if m == n {
						came++
					}
				}
				if must && came != 1 || !must && came != 0 {
					t.Fatalf("Reach(%v, %d, %d): %v: %d times to %d", x, start, cart, got, came, n)
				}
			}
		}
	}
}

// onWay tells whether a node is a cart's home, or on the way to one, from another node on.
func onWay(t tree.Tree, start, node, cart int) bool {
	var walk func(from, n int) (bool, bool)
	walk = func(from, n int) (passed, found bool) { // was the node passed on the way to a home? was there a home?
		found = isHome(t, n, cart)
		for m := 1; m <= 12; m++ {
			if m != from && joined(t, n, m) {
				p, f := walk(n, m)
				passed, found = passed || p, found || f
			}
		}
		return passed || found && n == node, found
	}
	passed, _ := walk(0, start)
	return passed && node != start && tree.Kind(t, start) != 0
}

// TestOwnMemory: the rules 4, 5 and 7a: what is asked is not changed, what lies behind a list's end is not read, and answers are new.
func TestOwnMemory(t *testing.T) {
	x := great()
	long := append(slices.Clone(x.Edges), tree.Edge{A: 1, B: 12})
	x.Edges = long[:11]
	a, b := Toward(x, 7, 2, 1), Reach(x, 4, 1)
	if !slices.Equal(a, []int{9, 12}) || !slices.Equal(b, []int{2, 7, 9, 12, 11, 3}) || !Wants(x, 2, 7, 1) || Wants(x, 12, 1, 3) {
		t.Errorf("with more behind the end: %v %v", a, b)
	}
	a[0], b[0] = 77, 77
	_ = append(a, 1)
	_ = append(b, 1)
	if a, b := Toward(x, 7, 2, 1), Reach(x, 4, 1); !slices.Equal(a, []int{9, 12}) || !slices.Equal(b, []int{2, 7, 9, 12, 11, 3}) {
		t.Errorf("with changed answers: %v %v", a, b)
	}
	if !slices.Equal(long[:11], great().Edges) || long[11] != (tree.Edge{A: 1, B: 12}) || x.Kinds != great().Kinds {
		t.Errorf("changed: %v", x)
	}
}

// TestManyEdges: P1, a tree of more edges than may be.
func TestManyEdges(t *testing.T) {
	x := small()
	for range 1 << 16 {
		x.Edges = append(x.Edges, tree.Edge{A: 3, B: 2}, tree.Edge{A: -1, B: math.MaxInt})
	}
	if !Wants(x, 2, 3, 1) || !slices.Equal(Toward(x, 3, 2, 1), []int{1}) || len(Reach(x, 2, 1)) != 0 {
		t.Errorf("%t %v %v", Wants(x, 2, 3, 1), Toward(x, 3, 2, 1), Reach(x, 2, 1))
	}
}

package tree

import (
	"math"
	"math/rand"
	"slices"
	"testing"

	"trug/api"
)

// kinds is kinds of nodes, the first one being the node 1.
func kinds(list ...int) (k [12]int) {
	copy(k[:], list)
	return k
}

// small is the document's example.
func small() Tree { return Tree{kinds(1, 2, 3), []Edge{{1, 3}, {2, 3}}} }

// great is a tree of all nodes: the serializers 2, 7, 9 and 11 in a row, the homes 1, 3, 12, and shards.
func great() Tree {
	return Tree{kinds(1, 3, 1, 2, 2, 2, 3, 2, 3, 2, 3, 1), []Edge{
		{7, 2}, {9, 7}, {9, 11}, {1, 2}, {3, 11}, {12, 7}, {2, 4}, {5, 2}, {6, 7}, {8, 9}, {11, 10},
	}}
}

// there tells by the words of the document whether a node is there.
func there(t Tree, n int) bool { return n >= 1 && n <= 12 && t.Kinds[n-1] >= 1 && t.Kinds[n-1] <= 3 }

// joined tells by the words of the document how many edges there are between two nodes, that count.
func joined(t Tree, a, b int) int {
	n := 0
	for _, e := range t.Edges {
		if (e == Edge{a, b} || e == Edge{b, a}) && a != b && there(t, a) && there(t, b) {
			n++
		}
	}
	return n
}

// ways is how many ways there are from a node to another one along serializers alone, that come to no node twice.
func ways(t Tree, a, b int, been map[int]bool) int {
	if a == b {
		return 1
	}
	been[a] = true
	n := 0
	for c := 1; c <= 12; c++ {
		if !been[c] && t.Kinds[c-1] == 3 {
			for range joined(t, a, c) {
				n += ways(t, c, b, been)
			}
		}
	}
	delete(been, a)
	return n
}

// wantRight tells by the words of the document whether a tree may be.
func wantRight(t Tree) bool {
	edges := map[Edge]bool{}
	ends := map[int]int{}
	for _, e := range t.Edges {
		if !there(t, e.A) || !there(t, e.B) || e.A == e.B || edges[e] || edges[Edge{e.B, e.A}] {
			return false
		}
		edges[e] = true
		ends[e.A]++
		ends[e.B]++
		if t.Kinds[e.A-1] != 3 && t.Kinds[e.B-1] != 3 {
			return false
		}
	}
	for i, kind := range t.Kinds {
		switch kind {
		case 0:
		case 1, 2:
			if ends[i+1] != 1 {
				return false
			}
		case 3:
			for j := range i {
				if t.Kinds[j] == 3 && ways(t, i+1, j+1, map[int]bool{}) != 1 {
					return false
				}
			}
		default:
			return false
		}
	}
	return true
}

// wantNext is by the words of the document the nodes to which a node has an edge.
func wantNext(t Tree, node int) []int {
	var out []int
	for n := 1; n <= 12; n++ {
		if joined(t, node, n) > 0 {
			out = append(out, n)
		}
	}
	return out
}

// wantBeyond is by the words of the document the nodes beyond another one.
func wantBeyond(t Tree, node, next int) []int {
	if joined(t, node, next) == 0 {
		return nil
	}
	came := map[int]bool{node: true, next: true}
	for range 12 {
		for a := 1; a <= 12; a++ {
			for b := 1; b <= 12; b++ {
				if came[a] && a != node && joined(t, a, b) > 0 {
					came[b] = true
				}
			}
		}
	}
	var out []int
	for n := 1; n <= 12; n++ {
		if came[n] && n != node {
			out = append(out, n)
		}
	}
	return out
}

// numbers is all nodes, and numbers that are none.
func numbers() []int {
	list := []int{0, -1, 13, 14, math.MinInt, math.MaxInt, 1 << 32, 1<<32 + 1, 1<<32 + 12}
	for n := 1; n <= 12; n++ {
		list = append(list, n)
	}
	return list
}

// asks asks all that is told of a tree.
func asks(t *testing.T, x Tree) {
	t.Helper()
	if got := Right(x); got != wantRight(x) {
		t.Fatalf("Right(%v): %t", x, got)
	}
	for _, n := range numbers() {
		kind := 0
		if n >= 1 && n <= 12 {
			kind = x.Kinds[n-1]
		}
		if got := Kind(x, n); got != kind {
			t.Fatalf("Kind(%v, %d): %d", x, n, got)
		}
		if got, want := Next(x, n), wantNext(x, n); !slices.Equal(got, want) {
			t.Fatalf("Next(%v, %d): %v, not %v", x, n, got, want)
		}
	}
	for node := 1; node <= 12; node++ {
		for next := 1; next <= 12; next++ {
			if got, want := Beyond(x, node, next), wantBeyond(x, node, next); !slices.Equal(got, want) {
				t.Fatalf("Beyond(%v, %d, %d): %v, not %v", x, node, next, got, want)
			}
		}
	}
}

// grown is a tree that may be, of so many nodes of the twelve.
func grown(r *rand.Rand, size int) Tree {
	var x Tree
	var serializers []int
	for i, at := range r.Perm(12)[:size] {
		n := at + 1
		kind := 1 + r.Intn(3)
		if i == 0 {
			kind = 3
		}
		x.Kinds[n-1] = kind
		if i > 0 {
			e := Edge{n, serializers[r.Intn(len(serializers))]}
			if r.Intn(2) == 0 {
				e = Edge{e.B, e.A}
			}
			x.Edges = slices.Insert(x.Edges, r.Intn(len(x.Edges)+1), e)
		}
		if kind == 3 {
			serializers = append(serializers, n)
		}
	}
	return x
}

// spoilt is a tree of which something is changed.
func spoilt(r *rand.Rand, x Tree) Tree {
	x.Edges = slices.Clone(x.Edges)
	number := func() int { return []int{1 + r.Intn(12), r.Intn(14), -1, 1<<32 + 1 + r.Intn(12)}[min(r.Intn(12), 3)] }
	node := func() int { return 1 + r.Intn(12) }
	for range 1 + r.Intn(2) {
		n := len(x.Edges)
		switch k := r.Intn(8); {
		case k == 0:
			x.Kinds[r.Intn(12)] = r.Intn(4)
		case k == 1:
			x.Kinds[r.Intn(12)] = []int{4, -1, 5, math.MaxInt, 1<<32 + 3, math.MinInt}[r.Intn(6)]
		case k == 2:
			x.Edges = append(x.Edges, Edge{node(), node()})
		case n == 0:
		case k == 3:
			x.Edges[r.Intn(n)].A = number()
		case k == 4:
			x.Edges[r.Intn(n)].B = node()
		case k == 5:
			e := x.Edges[r.Intn(n)]
			x.Edges[r.Intn(n)] = Edge{e.B, e.A}
		case k == 6:
			x.Edges = slices.Delete(x.Edges, r.Intn(n), n)
		default:
			x.Edges = append(x.Edges, x.Edges[r.Intn(n)])
		}
	}
	return x
}

// TestRightAll: P18.1, all trees of four nodes, with each set of edges among them.
func TestRightAll(t *testing.T) {
	at := []int{1, 4, 9, 12}
	var pairs []Edge
	for i, b := range at {
		for _, a := range at[:i] {
			pairs = append(pairs, Edge{b, a}, Edge{a, b})
		}
	}
	right := 0
	for kinds := range 256 {
		for set := range 729 {
			var x Tree
			for i, n := range at {
				x.Kinds[n-1] = kinds >> (2 * i) % 4
			}
			for i, rest := 0, set; i < 6; i, rest = i+1, rest/3 {
				if rest%3 > 0 { // this way or the other one
					x.Edges = append(x.Edges, pairs[2*i+rest%3-1])
				}
			}
			want := wantRight(x)
			if Right(x) != want {
				t.Fatalf("Right(%v): %t", x, !want)
			}
			if want {
				right++
			}
		}
	}
	if right < 500 {
		t.Errorf("just %d may be: of little worth", right)
	}
}

// TestRight: P18.1, trees at the edges of what may be.
func TestRight(t *testing.T) {
	with := func(change func(x *Tree)) Tree {
		x := small()
		change(&x)
		return x
	}
	for what, x := range map[string]Tree{
		"the example":             small(),
		"all nodes":               great(),
		"no node":                 {},
		"no node, an empty list":  {Edges: []Edge{}},
		"a serializer":            {Kinds: kinds(0, 3)},
		"two serializers":         {kinds(3, 3), []Edge{{1, 2}}},
		"three in a row":          {kinds(3, 3, 3), []Edge{{3, 1}, {2, 3}}},
		"no home":                 {kinds(2, 3), []Edge{{1, 2}}},
		"the other way round":     {kinds(1, 2, 3), []Edge{{3, 2}, {3, 1}}},
		"behind the list's end":   with(func(x *Tree) { x.Edges = append(x.Edges, Edge{1, 2})[:2] }),
		"the twelfth one, a star": {kinds(1, 1, 1, 1, 1, 2, 2, 2, 2, 2, 2, 3), []Edge{{1, 12}, {2, 12}, {3, 12}, {4, 12}, {5, 12}, {6, 12}, {7, 12}, {8, 12}, {9, 12}, {10, 12}, {11, 12}}},
	} {
		if !Right(x) || !wantRight(x) {
			t.Errorf("Right, %s: false", what)
		}
	}
	for what, x := range map[string]Tree{
		"a shard without an edge":         {kinds(1, 2, 3), []Edge{{1, 3}}},
		"a home alone":                    {Kinds: kinds(1)},
		"a home and a shard":              {kinds(1, 2), []Edge{{1, 2}}},
		"a shard at a home":               {kinds(1, 2, 3), []Edge{{1, 3}, {2, 1}}},
		"a shard at a shard":              {kinds(2, 2, 3), []Edge{{1, 3}, {2, 1}}},
		"a home with two edges":           {kinds(1, 3, 3), []Edge{{1, 3}, {1, 2}}},
		"that, and one way too much":      {kinds(1, 3, 3), []Edge{{1, 3}, {1, 2}, {2, 3}}},
		"two serializers apart":           {Kinds: kinds(3, 3)},
		"three serializers round":         {kinds(3, 3, 3), []Edge{{1, 2}, {2, 3}, {3, 1}}},
		"round, and one apart":            {kinds(3, 3, 3, 3), []Edge{{1, 2}, {2, 3}, {3, 1}}},
		"twice":                           {kinds(1, 2, 3), []Edge{{1, 3}, {2, 3}, {2, 3}}},
		"twice, the other way":            {kinds(1, 2, 3), []Edge{{1, 3}, {2, 3}, {3, 1}}},
		"twice, and a shard without":      {kinds(1, 2, 3), []Edge{{1, 3}, {3, 1}}},
		"with itself":                     {kinds(1, 2, 3), []Edge{{1, 3}, {2, 3}, {3, 3}}},
		"with itself alone":               {kinds(3), []Edge{{1, 1}}},
		"with one that is not there":      {kinds(1, 2, 3), []Edge{{1, 3}, {2, 3}, {4, 3}}},
		"with the node 0":                 {kinds(1, 2, 3), []Edge{{1, 3}, {2, 3}, {3, 0}}},
		"with the node 13":                {kinds(1, 2, 3), []Edge{{1, 3}, {2, 3}, {13, 3}}},
		"with no node, none is there":     {Edges: []Edge{{0, 0}}},
		"an edge, none is there":          {Edges: []Edge{{1, 2}}},
		"the kind 4":                      {kinds(1, 2, 3, 4), []Edge{{1, 3}, {2, 3}}},
		"the kind 4, with an edge":        {kinds(1, 2, 3, 4), []Edge{{1, 3}, {2, 3}, {4, 3}}},
		"the kind -1":                     {kinds(1, 2, 3, 0, 0, 0, 0, 0, 0, 0, 0, -1), []Edge{{1, 3}, {2, 3}}},
		"the kind -1 alone":               {Kinds: kinds(-1)},
		"a kind cut to 32 bits":           {kinds(1, 2, 1<<32+3), []Edge{{1, 3}, {2, 3}}},
		"a home in the middle of the way": {kinds(3, 1, 3), []Edge{{1, 2}, {2, 3}}},
	} {
		if Right(x) || wantRight(x) {
			t.Errorf("Right, %s: true", what)
		}
	}
}

// TestKind: P18.1, kinds are told as they stand there; 0 of no node.
func TestKind(t *testing.T) {
	x := Tree{Kinds: kinds(3, -7, 4, 0, 1<<32+1, math.MinInt, math.MaxInt, 2, 1, 1, 1, 3)}
	for _, n := range numbers() {
		want := 0
		if n >= 1 && n <= 12 {
			want = x.Kinds[n-1]
		}
		if got := Kind(x, n); got != want {
			t.Errorf("Kind of %d: %d, not %d", n, got, want)
		}
	}
}

// TestNodes: P18.1, the nodes of a kind, rising; of another kind nothing, whatever stands there.
func TestNodes(t *testing.T) {
	for kind, want := range map[int][]int{1: {1, 3, 12}, 2: {4, 5, 6, 8, 10}, 3: {2, 7, 9, 11}, 0: nil, 4: nil, -1: nil} {
		if got := Nodes(great(), kind); !slices.Equal(got, want) {
			t.Errorf("Nodes of the kind %d: %v, not %v", kind, got, want)
		}
	}
	x := Tree{Kinds: kinds(4, -1, 0, 1<<32+1, math.MinInt, math.MaxInt, 3, 4, 2, 5, 1, 1)}
	for _, kind := range []int{0, 4, 5, -1, 1<<32 + 1, math.MinInt, math.MaxInt} {
		if got := Nodes(x, kind); len(got) != 0 {
			t.Errorf("Nodes of the kind %d: %v", kind, got)
		}
	}
	for kind, want := range map[int][]int{1: {11, 12}, 2: {9}, 3: {7}} {
		if got := Nodes(x, kind); !slices.Equal(got, want) {
			t.Errorf("Nodes of the kind %d: %v, not %v", kind, got, want)
		}
		if got := Nodes(Tree{}, kind); len(got) != 0 {
			t.Errorf("Nodes, none is there: %v", got)
		}
	}
}

// TestKnown: P18.1, what is known of a tree that may be.
func TestKnown(t *testing.T) {
	x := great()
	for node, want := range map[int][]int{1: {2}, 2: {1, 4, 5, 7}, 7: {2, 6, 9, 12}, 11: {3, 9, 10}, 12: {7}, 0: nil, 13: nil} {
		if got := Next(x, node); !slices.Equal(got, want) {
			t.Errorf("Next of %d: %v, not %v", node, got, want)
		}
	}
	for pair, want := range map[[2]int][]int{
		{1, 2}:  {2, 3, 4, 5, 6, 7, 8, 9, 10, 11, 12},
		{2, 1}:  {1},
		{7, 9}:  {3, 8, 9, 10, 11},
		{9, 7}:  {1, 2, 4, 5, 6, 7, 12},
		{11, 9}: {1, 2, 4, 5, 6, 7, 8, 9, 12},
		{7, 11}: nil, {1, 1}: nil, {0, 1}: nil, {1, 0}: nil, {13, 7}: nil, {7, 13}: nil, {-1, -1}: nil, {math.MaxInt, math.MinInt}: nil,
	} {
		if got := Beyond(x, pair[0], pair[1]); !slices.Equal(got, want) {
			t.Errorf("Beyond of %v: %v, not %v", pair, got, want)
		}
	}
	asks(t, x)
	asks(t, small())
}

// TestNoTree: P18.1, of trees that may not be: edges twice, with themselves, with nodes that are not there, and ways round.
func TestNoTree(t *testing.T) {
	x := Tree{kinds(3, 3, 3, 0, 4, -1, 1, 3, 2), []Edge{
		{3, 1}, {1, 2}, {2, 1}, {2, 3}, {1, 1}, {4, 1}, {1, 5}, {6, 2}, {0, 1}, {13, 2}, {8, 7}, {3, 8}, {7, 9}, {7, 1}, {math.MinInt, 1}, {1, 1<<32 + 2},
	}}
	for node, want := range map[int][]int{1: {2, 3, 7}, 2: {1, 3}, 3: {1, 2, 8}, 4: nil, 5: nil, 6: nil, 7: {1, 8, 9}, 8: {3, 7}, 9: {7}, 10: nil} {
		if got := Next(x, node); !slices.Equal(got, want) {
			t.Errorf("Next of %d: %v, not %v", node, got, want)
		}
	}
	for pair, want := range map[[2]int][]int{
		{1, 2}: {2, 3, 7, 8, 9}, // round, to the nodes behind the others, but not through 1
		{9, 7}: {1, 2, 3, 7, 8}, {7, 9}: {9}, {4, 1}: nil, {1, 4}: nil, {1, 5}: nil, {1, 1}: nil, {6, 2}: nil,
	} {
		if got := Beyond(x, pair[0], pair[1]); !slices.Equal(got, want) {
			t.Errorf("Beyond of %v: %v, not %v", pair, got, want)
		}
	}
	asks(t, x)
}

// TestAny: P18.1, trees that may be, and such of which something is changed.
func TestAny(t *testing.T) {
	r := rand.New(rand.NewSource(1))
	right := 0
	for range 700 {
		x := grown(r, 1+r.Intn(12))
		if !Right(x) {
			t.Fatalf("Right(%v): false", x)
		}
		asks(t, x)
		x = spoilt(r, x)
		asks(t, x)
		if Right(x) {
			right++
		}
	}
	if right < 50 || right > 500 {
		t.Errorf("%d may be: of little worth", right)
	}
}

// TestHomes: P18.1, a cart's homes, in order.
func TestHomes(t *testing.T) {
	x := great() // the homes 1, 3, 12, as 0, 1, 2
	for cart, want := range map[int][]int{
		1: {3, 12}, 2: {12, 1}, 3: {1, 3}, 4: {3, 12}, 11: {12, 1}, 12: {1, 3}, 13: {3, 12}, 1 << 40: {3, 12},
		math.MaxInt: {3, 12}, math.MaxInt - 1: {1, 3}, math.MaxInt - 2: {12, 1},
		0: nil, -1: nil, -2: nil, math.MinInt: nil,
	} {
		if got := Homes(x, cart); !slices.Equal(got, want) {
			t.Errorf("Homes of %d: %v, not %v", cart, got, want)
		}
	}
	two := Tree{Kinds: kinds(0, 1, 4, 1)} // also of a tree that may not be
	for cart, want := range map[int][]int{1: {4, 2}, 2: {2, 4}, 3: {4, 2}, math.MaxInt: {4, 2}, 0: nil} {
		if got := Homes(two, cart); !slices.Equal(got, want) {
			t.Errorf("Homes of %d, of two: %v, not %v", cart, got, want)
		}
	}
	one := Tree{Kinds: kinds(3, 2, -1, 2, 1, 1<<32+1)}
	for _, cart := range []int{1, 2, 5, 12, math.MaxInt} {
		if got := Homes(one, cart); !slices.Equal(got, []int{5}) {
			t.Errorf("Homes of %d, of one: %v", cart, got)
		}
		if got := Homes(Tree{Kinds: kinds(3, 2, 4)}, cart); len(got) != 0 {
			t.Errorf("Homes of %d, of none: %v", cart, got)
		}
	}
	if got := Homes(one, 0); len(got) != 0 {
		t.Errorf("Homes of no cart, of one: %v", got)
	}
	all := Tree{Kinds: kinds(1, 1, 1, 1, 1, 1, 1, 1, 1, 1, 1, 1)}
	for cart := 1; cart <= api.MaxCarts; cart++ {
		if got := Homes(all, cart); !slices.Equal(got, []int{cart%12 + 1, (cart+1)%12 + 1}) {
			t.Errorf("Homes of %d, of twelve: %v", cart, got)
		}
	}
}

// TestBeyondAll: P18.3, of a tree that may be, a node and what is beyond its neighbours are all nodes that are there, each once; from each shard one comes to each home.
func TestBeyondAll(t *testing.T) {
	r := rand.New(rand.NewSource(2))
	for range 500 {
		x := grown(r, 1+r.Intn(12))
		var all []int
		for kind := 1; kind <= 3; kind++ {
			all = append(all, Nodes(x, kind)...)
		}
		slices.Sort(all)
		for _, node := range all {
			got := []int{node}
			for _, next := range Next(x, node) {
				got = append(got, Beyond(x, node, next)...)
			}
			slices.Sort(got)
			if !slices.Equal(got, all) {
				t.Fatalf("of %v, from %d: %v, not %v", x, node, got, all)
			}
		}
		for _, shard := range Nodes(x, 2) {
			next := Next(x, shard)
			for _, home := range Nodes(x, 1) {
				if len(next) != 1 || !slices.Contains(Beyond(x, shard, next[0]), home) {
					t.Fatalf("of %v: from the shard %d not to the home %d", x, shard, home)
				}
			}
		}
	}
}

// TestOwnMemory: what is handed in is not changed, and what lies behind it plays no part; what is handed out is new memory.
func TestOwnMemory(t *testing.T) {
	x := great()
	x.Edges = append(x.Edges, Edge{1, 3}, Edge{13, 0})[:11]
	was := Tree{x.Kinds, slices.Clone(x.Edges[:13])}
	list := func() [][]int {
		return [][]int{Nodes(x, 1), Nodes(x, 2), Next(x, 2), Beyond(x, 9, 7), Homes(x, 1), Homes(Tree{Kinds: kinds(1)}, 1)}
	}
	first := list()
	for _, l := range first {
		for i := range l {
			l[i] = 99
		}
		_ = append(l, 98)
	}
	if l := list(); !slices.Equal(l[0], []int{1, 3, 12}) || !slices.Equal(l[2], []int{1, 4, 5, 7}) || !slices.Equal(l[4], []int{3, 12}) {
		t.Errorf("%v, behind a change of what was told", l)
	}
	if !Right(x) || x.Kinds != was.Kinds || !slices.Equal(x.Edges[:13], was.Edges) {
		t.Errorf("changed: %v", x)
	}
}

// TestLong: P1, long lists of edges.
func TestLong(t *testing.T) {
	x := small()
	for i := range 1 << 20 {
		x.Edges = append(x.Edges, Edge{i % 17, i % 13})
	}
	if Right(x) {
		t.Errorf("Right: true")
	}
	if got := Next(x, 3); !slices.Equal(got, []int{1, 2}) {
		t.Errorf("Next: %v", got)
	}
	if got := Beyond(x, 3, 1); !slices.Equal(got, []int{1, 2}) {
		t.Errorf("Beyond: %v", got)
	}
	right := Tree{small().Kinds, slices.Repeat(small().Edges, 1<<19)}
	if Right(right) {
		t.Errorf("Right, each many times: true")
	}
}

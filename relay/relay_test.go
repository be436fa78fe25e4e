package relay

import (
	"bytes"
	"math"
	"math/rand"
	"slices"
	"testing"

	"trug/api"
	"trug/interest"
	"trug/label"
	"trug/tree"
	"trug/wire"
)

// kinds is kinds of nodes, the first one being the node 1.
func kinds(list ...int) (k [12]int) {
	copy(k[:], list)
	return k
}

// small is a home 1, a shard 2, a serializer 3.
func small() tree.Tree {
	return tree.Tree{Kinds: kinds(1, 2, 3), Edges: []tree.Edge{{A: 1, B: 3}, {A: 2, B: 3}}}
}

// great is a tree of all nodes: the serializers 2, 7, 9 and 11 in a row; the homes 1 at 2, 12 at 7, and 3 at 11; shards at each.
func great() tree.Tree {
	return tree.Tree{Kinds: kinds(1, 3, 1, 2, 2, 2, 3, 2, 3, 2, 3, 1), Edges: []tree.Edge{
		{A: 7, B: 2}, {A: 9, B: 7}, {A: 9, B: 11}, {A: 1, B: 2}, {A: 3, B: 11}, {A: 12, B: 7},
		{A: 2, B: 4}, {A: 5, B: 2}, {A: 6, B: 7}, {A: 8, B: 9}, {A: 11, B: 10},
	}}
}

// star is a serializer 12 with eleven neighbours, of which the homes are 1, 2 and 11.
func star() tree.Tree {
	t := tree.Tree{Kinds: kinds(1, 1, 2, 2, 2, 2, 2, 2, 2, 3, 1, 3)}
	for n := range 11 {
		t.Edges = append(t.Edges, tree.Edge{A: n + 1, B: 12})
	}
	return t
}

// of is a label of the node 4 for a cart.
func of(cart int) label.Label { return label.Label{Time: 1, Node: 4, N: 1, Cart: cart, Seller: 1} }

// made is a relay that a call made.
func made(t *testing.T, x tree.Tree, node int) *Relay {
	t.Helper()
	r, e := New(x, node)
	if r == nil || e != api.OK || r.Node() != node {
		t.Fatalf("New(%v, %d): %v %v", x, node, r, e)
	}
	return r
}

// heard hears a label, and tells whether it goes where it must.
func heard(t *testing.T, r *Relay, from, cart int, want ...int) {
	t.Helper()
	if to, e := r.Hear(from, of(cart)); e != api.OK || !slices.Equal(to, want) {
		t.Fatalf("Hear from %d, cart %d: %v %v, not %v", from, cart, to, e, want)
	}
}

// wantCounts: these are a relay's counts, by nodes; all others are 0.
func wantCounts(t *testing.T, r *Relay, want map[int][2]uint64) {
	t.Helper()
	for _, n := range []int{0, -1, 13, math.MinInt, math.MaxInt, 1<<32 + 1, 1, 2, 3, 4, 5, 6, 7, 8, 9, 10, 11, 12} {
		if came, went := r.Count(n); [2]uint64{came, went} != want[n] {
			t.Fatalf("Count of %d: %d %d, not %v", n, came, went, want[n])
		}
	}
}

// put is the bytes of a relay's cursors.
func put(r *Relay) []byte {
	w := wire.New()
	r.Put(w)
	return w.Bytes()
}

// numbers is the bytes of numbers.
func numbers(list ...uint64) []byte {
	w := wire.New()
	for _, n := range list {
		w.Num(n)
	}
	return w.Bytes()
}

// load loads the cursors of bytes, with nothing behind them.
func load(r *Relay, b []byte) api.Errno { return wire.Read(b, r.Load) }

// TestNew: P20.1, serializers have relays, through which nothing went; others have none.
func TestNew(t *testing.T) {
	for _, n := range []int{2, 7, 9, 11} {
		wantCounts(t, made(t, great(), n), nil)
	}
	wantCounts(t, made(t, small(), 3), nil)
	wantCounts(t, made(t, tree.Tree{Kinds: kinds(0, 3)}, 2), nil) // without neighbours
	for _, n := range []int{0, 1, 3, 4, 5, 6, 8, 10, 12, 13, -1, math.MinInt, math.MaxInt, 1<<32 + 2} {
		if r, e := New(great(), n); r != nil || e != api.ErrNode {
			t.Errorf("New, node %d: %v %v", n, r, e)
		}
	}
	for what, x := range map[string]tree.Tree{
		"an edge is missing":  {Kinds: kinds(1, 2, 3), Edges: small().Edges[:1]},
		"an edge twice":       {Kinds: kinds(1, 2, 3), Edges: append(small().Edges, tree.Edge{A: 3, B: 1})},
		"the kind 4":          {Kinds: kinds(1, 2, 3, 4), Edges: small().Edges},
		"two that are apart":  {Kinds: kinds(3, 0, 3)},
		"a ring":              {Kinds: kinds(3, 3, 3), Edges: []tree.Edge{{A: 1, B: 2}, {A: 2, B: 3}, {A: 3, B: 1}}},
		"a home with a shard": {Kinds: kinds(1, 2, 3), Edges: []tree.Edge{{A: 1, B: 3}, {A: 2, B: 1}}},
	} {
		for _, n := range []int{3, 1, 0, 4, 13} { // ErrForm is the first one
			if r, e := New(x, n); r != nil || e != api.ErrForm {
				t.Errorf("New, %s, node %d: %v %v", what, n, r, e)
			}
		}
	}
	if r, e := New(tree.Tree{}, 1); r != nil || e != api.ErrNode {
		t.Errorf("New, no node is there: %v %v", r, e)
	}
}

// TestNil: P20.1 and P1, of nil, and of a relay that no call made.
func TestNil(t *testing.T) {
	for _, r := range []*Relay{nil, {}, new(Relay)} {
		if r.Node() != 0 {
			t.Errorf("Node: %d", r.Node())
		}
		for _, from := range []int{0, 1, 3, 13, -1} { // ahead of all other errors
			for _, l := range []label.Label{of(1), {}} {
				if to, e := r.Hear(from, l); len(to) != 0 || e != api.ErrNil {
					t.Errorf("Hear from %d: %v %v", from, to, e)
				}
			}
		}
		wantCounts(t, r, nil)
		if len(put(r)) != 0 {
			t.Errorf("Put: %x", put(r))
		}
		r.Put(nil)
		r.Load(nil)
		if e := load(r, nil); e != api.OK {
			t.Errorf("Load of nothing: %v", e)
		}
		if e := load(r, []byte{1}); e != api.ErrLong { // nothing was read
			t.Errorf("Load: %v", e)
		}
		wantCounts(t, r, nil)
	}
}

// TestHear: P20.2, the document's example, and labels of many carts: where each goes, and what is counted.
func TestHear(t *testing.T) {
	r := made(t, small(), 3)
	heard(t, r, 2, 1, 1)
	wantCounts(t, r, map[int][2]uint64{1: {0, 1}, 2: {1, 0}})
	heard(t, r, 2, 2, 1)
	heard(t, r, 1, 1) // from the home itself: on to nobody, but it came
	wantCounts(t, r, map[int][2]uint64{1: {1, 2}, 2: {2, 0}})

	r = made(t, great(), 7) // the cart 1 has the homes 3 and 12, 2 has 12 and 1, 3 has 1 and 3
	heard(t, r, 2, 1, 9, 12)
	heard(t, r, 6, 3, 2, 9)
	heard(t, r, 9, 2, 2, 12)
	heard(t, r, 12, 2, 2)
	heard(t, r, 12, 3, 2, 9)
	heard(t, r, 9, 1, 12)
	heard(t, r, 6, 12, 2, 9)
	wantCounts(t, r, map[int][2]uint64{2: {1, 5}, 6: {2, 0}, 9: {2, 4}, 12: {2, 3}})

	r = made(t, star(), 12) // and here it has 2 and 11, 11 and 1, 1 and 2
	for n := 1; n <= 11; n++ {
		want := slices.DeleteFunc([]int{2, 11}, func(m int) bool { return m == n })
		heard(t, r, n, 1, want...)
	}
	wantCounts(t, r, map[int][2]uint64{1: {1, 0}, 2: {1, 10}, 3: {1, 0}, 4: {1, 0}, 5: {1, 0}, 6: {1, 0}, 7: {1, 0}, 8: {1, 0}, 9: {1, 0}, 10: {1, 0}, 11: {1, 10}})
}

// TestHearWrong: P20.2, what is refused changes nothing; the neighbour is asked first.
func TestHearWrong(t *testing.T) {
	r := made(t, great(), 7)
	heard(t, r, 2, 1, 9, 12)
	counts := map[int][2]uint64{2: {1, 0}, 9: {0, 1}, 12: {0, 1}}
	late := of(1)
	late.Time = api.MaxTime + 1
	wrong := []label.Label{{}, of(0), of(13), of(-1), of(1<<32 + 1), late}
	for _, from := range []int{0, 1, 3, 4, 5, 7, 8, 10, 11, 13, -1, math.MinInt, math.MaxInt, 1<<32 + 2} {
		for _, l := range append(wrong, of(1)) {
			if to, e := r.Hear(from, l); len(to) != 0 || e != api.ErrNode {
				t.Errorf("Hear from %d of %v: %v %v", from, l, to, e)
			}
		}
	}
	for _, from := range []int{2, 6, 9, 12} {
		for _, l := range wrong {
			if to, e := r.Hear(from, l); len(to) != 0 || e != api.ErrForm {
				t.Errorf("Hear from %d of %v: %v %v", from, l, to, e)
			}
		}
	}
	wantCounts(t, r, counts)
	alone := made(t, tree.Tree{Kinds: kinds(0, 3)}, 2)
	for n := range 14 {
		if to, e := alone.Hear(n, of(1)); len(to) != 0 || e != api.ErrNode {
			t.Errorf("Hear, without neighbours, from %d: %v %v", n, to, e)
		}
	}
}

// TestLabels: P20.2, any label that may be goes, whosever it is: of a checkout, with Deps, at the greatest numbers.
func TestLabels(t *testing.T) {
	r := made(t, small(), 3)
	for i, l := range []label.Label{
		{Time: 1, Node: 2, N: 1, Cart: 1},
		{Time: api.MaxTime, Node: 12, N: api.MaxCount, Cart: 12, Seller: 12, Deps: api.Vector{11: api.MaxCount - 1}},
		{Time: 7, Node: 3, N: 3, Cart: 5, Seller: 9, Deps: api.Vector{1, 0, 2, 5}},
	} {
		if to, e := r.Hear(2, l); e != api.OK || !slices.Equal(to, []int{1}) {
			t.Errorf("Hear of %v: %v %v", l, to, e)
		}
		wantCounts(t, r, map[int][2]uint64{1: {0, uint64(i + 1)}, 2: {uint64(i + 1), 0}})
	}
}

// TestOwnMemory: the rule 5: the tree is not kept, and what is told is new.
func TestOwnMemory(t *testing.T) {
	x := great()
	r := made(t, x, 7)
	for i := range x.Edges {
		x.Edges[i] = tree.Edge{A: 1, B: 2}
	}
	to, _ := r.Hear(2, of(1))
	to[0], to[1] = 2, 2
	_ = append(to, 2)
	heard(t, r, 2, 1, 9, 12)
	wantCounts(t, r, map[int][2]uint64{2: {2, 0}, 9: {0, 2}, 12: {0, 2}})
	x = great()
	kept := slices.Clone(x.Edges)
	heard(t, made(t, x, 7), 2, 1, 9, 12)
	if !slices.Equal(x.Edges, kept) {
		t.Errorf("changed: %v", x.Edges)
	}
	other := made(t, great(), 7) // of one tree, each with its own cursors
	heard(t, other, 6, 1, 9, 12)
	wantCounts(t, r, map[int][2]uint64{2: {2, 0}, 9: {0, 2}, 12: {0, 2}})
	long := append(great().Edges, tree.Edge{A: 1, B: 12})
	heard(t, made(t, tree.Tree{Kinds: great().Kinds, Edges: long[:11]}, 7), 2, 1, 9, 12)
}

// TestPutKnown: P20.3, bytes that are known: both counts of each neighbour, in order, behind others.
func TestPutKnown(t *testing.T) {
	r := made(t, great(), 7)
	for range 130 {
		heard(t, r, 2, 1, 9, 12)
	}
	heard(t, r, 6, 3, 2, 9)
	heard(t, r, 12, 2, 2)
	if b := put(r); string(b) != "\x81\x02\x02\x01\x00\x00\x81\x03\x01\x81\x02" {
		t.Errorf("Put: %x", b)
	}
	w := wire.New().Num(300)
	r.Put(w)
	r.Put(w.Num(9))
	r.Put(nil)
	if want := numbers(300, 130, 2, 1, 0, 0, 131, 1, 130, 9, 130, 2, 1, 0, 0, 131, 1, 130); !bytes.Equal(w.Bytes(), want) {
		t.Errorf("Put behind others: %x", w.Bytes())
	}
	wantCounts(t, r, map[int][2]uint64{2: {130, 2}, 6: {1, 0}, 9: {0, 131}, 12: {1, 130}})
	if b := put(made(t, star(), 12)); !bytes.Equal(b, make([]byte, 22)) {
		t.Errorf("Put of noughts: %x", b)
	}
	if b := put(made(t, tree.Tree{Kinds: kinds(0, 3)}, 2)); len(b) != 0 {
		t.Errorf("Put without neighbours: %x", b)
	}
}

// TestLoad: P20.3, the counts that are read are the relay's then, whatever they were.
func TestLoad(t *testing.T) {
	r := made(t, great(), 7)
	heard(t, r, 2, 1, 9, 12)
	const most = 1 << 40
	if e := load(r, numbers(1, 0, most, most, 0, 3, 200, most-1)); e != api.OK {
		t.Fatalf("Load: %v", e)
	}
	counts := map[int][2]uint64{2: {1, 0}, 6: {most, most}, 9: {0, 3}, 12: {200, most - 1}}
	wantCounts(t, r, counts)
	if b := put(r); !bytes.Equal(b, numbers(1, 0, most, most, 0, 3, 200, most-1)) {
		t.Errorf("Put: %x", b)
	}
	heard(t, r, 12, 3, 2, 9) // it goes on from there
	counts[2], counts[9], counts[12] = [2]uint64{1, 1}, [2]uint64{0, 4}, [2]uint64{201, most - 1}
	wantCounts(t, r, counts)
	two := made(t, small(), 3)
	e := wire.Read(numbers(5, 6, 7, 8, 9, 10), func(in *wire.Reader) {
		in.Must(in.Num() == 5)
		two.Load(in)
		in.Must(in.Num() == 10)
	})
	if e != api.OK {
		t.Errorf("Read, counts among others: %v", e)
	}
	wantCounts(t, two, map[int][2]uint64{1: {6, 7}, 2: {8, 9}})
	one := made(t, tree.Tree{Kinds: kinds(1, 3), Edges: []tree.Edge{{A: 1, B: 2}}}, 2)
	if e := load(one, numbers(7, 8)); e != api.OK {
		t.Errorf("Load with one neighbour: %v", e)
	}
	wantCounts(t, one, map[int][2]uint64{1: {7, 8}})
	if e := load(made(t, tree.Tree{Kinds: kinds(0, 3)}, 2), nil); e != api.OK {
		t.Errorf("Load without neighbours: %v", e)
	}
}

// TestLoadFaults: P20.3 and the rule 3, what is no relay's changes nothing, wherever the fault stands.
func TestLoadFaults(t *testing.T) {
	r := made(t, great(), 7)
	heard(t, r, 2, 1, 9, 12)
	counts := map[int][2]uint64{2: {1, 0}, 9: {0, 1}, 12: {0, 1}}
	b := numbers(5, 6, 7, 8, 9, 300, 11, 400)
	for n := range b {
		if e := load(r, b[:n:n]); e != api.ErrShort {
			t.Errorf("cut at %d: %v", n, e)
		}
		wantCounts(t, r, counts)
	}
	for i := range 8 {
		for _, n := range []uint64{1<<40 + 1, 1 << 41, 1 << 62, 1 << 63, math.MaxUint64} {
			list := []uint64{5, 6, 7, 8, 9, 10, 11, 12}
			list[i] = n
			for _, end := range []int{8, i + 1} { // the first fault counts: the rest may be missing
				if e := load(r, numbers(list[:end]...)); e != api.ErrForm {
					t.Errorf("%d at %d: %v", n, i, e)
				}
				wantCounts(t, r, counts)
			}
		}
		list := numbers(1, 2, 3, 4, 5, 6, 7, 8)
		if e := load(r, slices.Insert(list, i, 0x80)); e != api.ErrForm {
			t.Errorf("a digit of nought at %d: %v", i, e)
		}
		wantCounts(t, r, counts)
	}
	if e := load(r, append(b, 0)); e != api.ErrLong {
		t.Errorf("longer: %v", e)
	}
}

// TestLoadNil: P1, of readers that read nothing all counts that are told are 0.
func TestLoadNil(t *testing.T) {
	var ended *wire.Reader
	wire.Read(nil, func(in *wire.Reader) { ended = in })
	for _, in := range []*wire.Reader{nil, {}, ended} {
		r := made(t, small(), 3)
		heard(t, r, 2, 1, 1)
		r.Load(in)
		wantCounts(t, r, nil)
	}
}

// TestThere: P20.3 and P2, cursors go there and back.
func TestThere(t *testing.T) {
	r := rand.New(rand.NewSource(1))
	for range 300 {
		a, b := made(t, great(), 9), made(t, great(), 9)
		for range r.Intn(400) {
			a.Hear([]int{7, 8, 11}[r.Intn(3)], of(1+r.Intn(12)))
			b.Hear([]int{7, 8, 11}[r.Intn(3)], of(1+r.Intn(12)))
		}
		if e := load(b, put(a)); e != api.OK || b.cursors != a.cursors || !bytes.Equal(put(a), put(b)) {
			t.Fatalf("%x: %v %x", put(a), e, put(b))
		}
	}
}

// TestAny: P20.2 and P20.4, many labels through the relays of a tree: what goes to a neighbour came from the others.
func TestAny(t *testing.T) {
	r := rand.New(rand.NewSource(2))
	for _, x := range []tree.Tree{small(), great(), star()} {
		for _, node := range tree.Nodes(x, 3) {
			next := tree.Next(x, node)
			relay := made(t, x, node)
			counts := map[int][2]uint64{}
			for range 2000 {
				from, cart := r.Intn(14), r.Intn(14)
				to, e := relay.Hear(from, of(cart))
				if !slices.Contains(next, from) || cart < 1 || cart > 12 {
					if e == api.OK || len(to) != 0 {
						t.Fatalf("Hear from %d, cart %d: %v %v", from, cart, to, e)
					}
					continue
				}
				if e != api.OK || !slices.Equal(to, interest.Toward(x, node, from, cart)) || slices.Contains(to, from) {
					t.Fatalf("Hear from %d, cart %d: %v %v", from, cart, to, e)
				}
				counts[from] = [2]uint64{counts[from][0] + 1, counts[from][1]}
				for _, n := range to {
					counts[n] = [2]uint64{counts[n][0], counts[n][1] + 1}
				}
			}
			wantCounts(t, relay, counts)
			wantLess(t, relay, next)
		}
	}
}

// wantLess: never more went to a neighbour than the others sent.
func wantLess(t *testing.T, r *Relay, next []int) {
	t.Helper()
	all := uint64(0)
	for _, n := range next {
		came, _ := r.Count(n)
		all += came
	}
	for _, n := range next {
		if came, went := r.Count(n); went > all-came {
			t.Errorf("to %d went %d of %d", n, went, all-came)
		}
	}
}

// TestWay: P19.2 and P20.2, a label that goes from relay to relay comes to where interest tells.
func TestWay(t *testing.T) {
	x := great()
	for cart := 1; cart <= 12; cart++ {
		for _, start := range []int{4, 5, 6, 8, 10, 1, 3, 12} {
			relays := map[int]*Relay{}
			for _, n := range tree.Nodes(x, 3) {
				relays[n] = made(t, x, n)
			}
			var came []int
			waits := [][2]int{}
			for _, n := range interest.Toward(x, start, 0, cart) {
				waits = append(waits, [2]int{start, n})
			}
			for ; len(waits) > 0; waits = waits[1:] {
				from, node := waits[0][0], waits[0][1]
				came = append(came, node)
				if relays[node] == nil {
					continue
				}
				to, e := relays[node].Hear(from, of(cart))
				if e != api.OK {
					t.Fatalf("Hear at %d from %d: %v", node, from, e)
				}
				for _, n := range to {
					waits = append(waits, [2]int{node, n})
				}
			}
			if want := interest.Reach(x, start, cart); !slices.Equal(came, want) {
				t.Errorf("from %d, cart %d: %v, not %v", start, cart, came, want)
			}
		}
	}
}

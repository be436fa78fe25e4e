package store

import (
	"math"
	"math/rand"
	"testing"

	"trug/api"
	"trug/label"
	"trug/op"
)

// add is an op that may be.
var add = op.Op{Kind: 1, Sku: 5, Qty: 2}

// makes asks for an event that is made, and does not come by that.
func makes(t *testing.T, s *Store, node int, time uint64, cart, seller int, seen api.Vector, o op.Op, n uint32, deps api.Vector) op.Event {
	t.Helper()
	want := op.Event{Label: label.Label{Time: time, Node: node, N: n, Cart: cart, Seller: seller, Deps: deps}, Op: o}
	count, known := s.Len(), s.Known(cart)
	x, e := s.Make(node, time, cart, seller, seen, o)
	if e != api.OK || !op.Same(x, want) {
		t.Fatalf("Make: %v %v, not %v", x, e, want)
	}
	if s.Len() != count || s.Known(cart) != known {
		t.Fatalf("Make: it came")
	}
	return x
}

// refuses asks for an event that is not made.
func refuses(t *testing.T, s *Store, node int, time uint64, cart, seller int, seen api.Vector, o op.Op, want api.Errno) {
	t.Helper()
	if x, e := s.Make(node, time, cart, seller, seen, o); !op.Same(x, op.Event{}) || e != want {
		t.Fatalf("Make(%d, %d, %d, %d, %v, %v): %v %v, not %v", node, time, cart, seller, seen, o, x, e, want)
	}
}

// TestMake: P22.2 and P22.5, the document's example; what is made depends on all that was known, and seen, and on nothing of other carts.
func TestMake(t *testing.T) {
	s, m := New(), newModel()
	x := makes(t, s, 2, 1, 1, 3, api.Vector{}, add, 1, api.Vector{})
	y := makes(t, s, 2, 1, 1, 3, api.Vector{}, add, 1, api.Vector{}) // it did not come
	has(t, s, m)
	m.comes(t, s, x)
	passes(t, s, y, api.OK)
	m.comes(t, s, makes(t, s, 2, 1, 1, 3, api.Vector{}, add, 2, api.Vector{0, 1}))
	makes(t, s, 2, 9, 2, 3, api.Vector{}, add, 1, api.Vector{})
	m.comes(t, s, makes(t, s, 4, 9, 1, 12, api.Vector{7, 2, 0, 0, 5}, add, 1, api.Vector{7, 2, 0, 0, 5}))
	m.comes(t, s, makes(t, s, 2, 9, 1, 1, api.Vector{0, 1, 0, 0, 6}, add, 3, api.Vector{7, 2, 0, 1, 6}))
	makes(t, s, 4, 9, 1, 1, api.Vector{1, 1, 1, 1, 1}, add, 2, api.Vector{7, 3, 1, 1, 6})
	makes(t, s, 1, 9, 1, 1, api.Vector{7, 11: api.MaxCount}, add, 8, api.Vector{7, 3, 0, 1, 6, 11: api.MaxCount})
	makes(t, s, 12, api.MaxTime, 12, 12, without(11), op.Op{Kind: 4}, 1, without(11))
	has(t, s, m)
}

// without is the greatest vector, but 0 at one place.
func without(i int) api.Vector {
	v := most
	v[i] = 0
	return v
}

// TestMakeKnown: P22.2 and P22.5, by what is known, not by what is there: whatever came, from whom, and was purged.
func TestMakeKnown(t *testing.T) {
	s, m := of(t, at(1, 2, 3, 5, api.Vector{4}))
	makes(t, s, 3, 1, 1, 2, api.Vector{}, add, 6, api.Vector{4, 0, 5})
	makes(t, s, 1, 1, 1, 2, api.Vector{}, add, 5, api.Vector{4, 0, 5})
	m.comes(t, s, at(1, 2, 3, 2, api.Vector{})) // an old one
	x := makes(t, s, 3, 1, 1, 2, api.Vector{}, add, 6, api.Vector{4, 0, 5})
	m.comes(t, s, x)
	for seller := range 13 {
		s.Purge(seller)
		m.purge(seller)
	}
	has(t, s, m)
	y := makes(t, s, 3, 1, 1, 2, api.Vector{4, 0, 6}, add, 7, api.Vector{4, 0, 6})
	m.comes(t, s, x)
	m.comes(t, s, y)
	has(t, s, m)
	s = read(t, put(s)) // and behind a beginning
	makes(t, s, 3, 1, 1, 2, api.Vector{0, 2}, add, 8, api.Vector{4, 2, 7})
}

// TestMakeErrors: P22.2, of several errors the first one; nothing has changed.
func TestMakeErrors(t *testing.T) {
	s, m := of(t, at(1, 2, 3, 5, api.Vector{4}), at(7, 2, 3, api.MaxCount, api.Vector{}))
	tooMany := api.Vector{11: api.MaxCount + 1}
	for _, n := range numbers() {
		if isOne(n) {
			continue
		}
		refuses(t, s, n, 1, 1, 2, api.Vector{}, add, api.ErrNode)
		refuses(t, s, n, 0, n, n, tooMany, op.Op{}, api.ErrNode)
		refuses(t, s, 3, 1, n, 2, api.Vector{}, add, api.ErrCart)
		refuses(t, s, 3, 0, n, n, tooMany, op.Op{}, api.ErrCart)
		refuses(t, s, 3, 1, n, 2, api.Vector{0, 0, 1}, add, api.ErrCart) // ahead of seen
		refuses(t, s, 3, 1, 1, n, api.Vector{}, add, api.ErrForm)
		refuses(t, s, 3, 1, 1, n, tooMany, add, api.ErrArg)
	}
	refuses(t, s, 3, 1, 1, 2, api.Vector{0, 0, 6}, add, api.ErrArg)
	refuses(t, s, 3, 1, 2, 2, api.Vector{0, 0, 1}, add, api.ErrArg) // of another cart nothing is known
	refuses(t, s, 1, 1, 1, 2, api.Vector{5}, add, api.ErrArg)
	refuses(t, s, 12, 1, 1, 2, api.Vector{11: 1}, add, api.ErrArg)
	makes(t, s, 3, 1, 1, 2, api.Vector{5, 0, 5, 9}, add, 6, api.Vector{5, 0, 5, 9})
	for i := range 12 {
		for _, n := range []uint32{api.MaxCount + 1, 1 << 31, math.MaxUint32} {
			var seen api.Vector
			seen[i] = n
			refuses(t, s, 3, 1, 1, 2, seen, add, api.ErrArg)
			refuses(t, s, 3, 0, 1, 0, seen, op.Op{}, api.ErrArg)
			refuses(t, s, 3, 1, 7, 2, seen, add, api.ErrArg) // ahead of the next dot's error
		}
	}
	refuses(t, s, 3, 1, 7, 2, api.Vector{}, add, api.ErrFull)
	refuses(t, s, 3, 1, 7, 2, api.Vector{9, 0, api.MaxCount}, add, api.ErrFull)
	refuses(t, s, 3, 0, 7, 0, api.Vector{}, op.Op{}, api.ErrFull) // ahead of the form
	makes(t, s, 4, 1, 7, 2, api.Vector{}, add, 1, api.Vector{2: api.MaxCount})
	has(t, s, m)
}

// TestMakeForm: P22.2, what may not be is not made, by its Time, its Seller, or its op.
func TestMakeForm(t *testing.T) {
	s, m := of(t, at(1, 2, 3, 5, api.Vector{4}))
	for _, time := range []uint64{0, api.MaxTime + 1, 1 << 63, math.MaxUint64} {
		refuses(t, s, 3, time, 1, 2, api.Vector{}, add, api.ErrForm)
	}
	for _, o := range []op.Op{
		{}, {Kind: 7}, {Kind: -1}, {Kind: 1, Sku: 5}, {Kind: 1, Sku: 41, Qty: 1}, {Kind: 1, Sku: 5, Qty: 1001}, {Kind: 2, Sku: 5}, {Kind: 3, Sku: 5, Qty: 1},
		{Kind: 4, Sku: 5}, {Kind: 5, Sku: 5, Qty: 4}, {Kind: 6, Sku: 5, Qty: 1}, {Kind: 1, Sku: 5, Qty: 2, Price: math.Copysign(0, -1)}, {Kind: 4, Price: math.NaN()},
	} {
		refuses(t, s, 3, 1, 1, 2, api.Vector{}, o, api.ErrForm)
	}
	for _, o := range []op.Op{ // a customer's, and a seller's
		{Kind: 1, Sku: 40, Qty: 1000}, {Kind: 2, Sku: 1, Qty: -1000}, {Kind: 3, Sku: 5}, {Kind: 4}, {Kind: 5, Sku: 5, Qty: 3},
		{Kind: 6, Sku: 5}, {Kind: 6, Sku: 5, Price: math.Copysign(0, -1)}, {Kind: 6, Sku: 5, Price: math.Float64frombits(0x7FF0000000000001)},
	} {
		makes(t, s, 3, 1, 1, 2, api.Vector{}, o, 6, api.Vector{4, 0, 5})
	}
	has(t, s, m)
}

// TestMakeFull: P22.2, a full store makes events all the same: they do not come by that.
func TestMakeFull(t *testing.T) {
	s, m := full(t)
	x := makes(t, s, 3, 1, 2, 1, api.Vector{}, add, 101, api.Vector{0, 0, 100, 100})
	passes(t, s, x, api.ErrFull)
	has(t, s, m)
	if n := s.Purge(9); n != 100 || m.purge(9) != n {
		t.Fatalf("Purge: %d", n)
	}
	m.comes(t, s, x)
	has(t, s, m)
}

// anyOp is an op, one of four of which may not be.
func anyOp(r *rand.Rand) op.Op {
	return []op.Op{
		{Kind: 1, Sku: 1 + r.Intn(3), Qty: 1 + r.Intn(9)}, {Kind: 2, Sku: 1 + r.Intn(3), Qty: -1}, {Kind: 3, Sku: 1 + r.Intn(3)}, {Kind: 4},
		{Kind: 5, Sku: 2, Qty: 1 + r.Intn(3)}, {Kind: 6, Sku: 2, Price: math.NaN()}, {Kind: 6, Sku: 1, Price: r.Float64()}, {Kind: r.Intn(9), Sku: 1, Qty: 7},
	}[r.Intn(8)]
}

// make makes an event by the words of the document.
func (m *model) make(node int, time uint64, cart, seller int, seen api.Vector, o op.Op) (op.Event, api.Errno) {
	if !isOne(node) {
		return op.Event{}, api.ErrNode
	}
	if !isOne(cart) {
		return op.Event{}, api.ErrCart
	}
	known := m.known[cart]
	deps := known
	for i, n := range seen {
		if n > 1<<20 || i == node-1 && n > known[i] {
			return op.Event{}, api.ErrArg
		}
		deps[i] = max(deps[i], n)
	}
	if known[node-1] >= 1<<20 {
		return op.Event{}, api.ErrFull
	}
	x := op.Event{Label: label.Label{Time: time, Node: node, N: known[node-1] + 1, Cart: cart, Seller: seller, Deps: deps}, Op: o}
	if !op.Right(x) {
		return op.Event{}, api.ErrForm
	}
	return x, api.OK
}

// tally is what became of events that were added.
type tally struct{ came, twice, full int }

// adds adds an event to a store, and asks whether it comes, by the words of the document.
func (n *tally) adds(t *testing.T, s *Store, m *model, x op.Event) {
	t.Helper()
	_, there := m.has[[3]int{x.Label.Cart, x.Label.Node, int(x.Label.N)}]
	switch {
	case !op.Right(x):
		passes(t, s, x, api.ErrForm)
	case there:
		n.twice++
		passes(t, s, x, api.OK)
	case len(m.events) == 200:
		n.full++
		passes(t, s, x, api.ErrFull)
	default:
		n.came++
		m.comes(t, s, x)
	}
}

// TestAny: P22.1 to P22.6, two stores that hear of each other's events, and purge: whatever is called, what is told is what the document says.
func TestAny(t *testing.T) {
	r := rand.New(rand.NewSource(1))
	var n tally
	for range 40 {
		stores, models := []*Store{New(), New()}, []*model{newModel(), newModel()}
		var made []op.Event
		purges := r.Intn(4) > 0
		for range []int{1500, 500}[r.Intn(2)] {
			i := r.Intn(2)
			s, m := stores[i], models[i]
			if purges && r.Intn(60) == 0 {
				if seller := r.Intn(5); s.Purge(seller) != m.purge(seller) {
					t.Fatalf("Purge(%d)", seller)
				}
			}
			x, e := makesAny(t, r, s, m, models[1-i], i)
			if e == api.OK {
				made = append(made, x)
			}
			if len(made) > 0 && r.Intn(3) > 0 {
				x = made[r.Intn(len(made))]
			}
			n.adds(t, s, m, x)
			if r.Intn(8) == 0 {
				has(t, s, m)
				stores[i] = read(t, put(s)) // it goes on as it was
			}
		}
		has(t, stores[0], models[0])
		has(t, stores[1], models[1])
	}
	if n.came < 3000 || n.twice < 1000 || n.full < 50 {
		t.Errorf("%v: of little worth", n)
	}
}

// makesAny makes any event, of which nearly all may be, and asks whether it is as the document says.
func makesAny(t *testing.T, r *rand.Rand, s *Store, m, other *model, i int) (op.Event, api.Errno) {
	t.Helper()
	node, cart, seller := 1+i+2*r.Intn(2), r.Intn(4), r.Intn(5)
	seen := other.known[cart]
	if r.Intn(9) == 0 {
		seen[r.Intn(12)] = []uint32{1, 1 << 20, 1<<20 + 1}[r.Intn(3)]
	}
	if node == 4 {
		node = r.Intn(14)
	}
	o, time := anyOp(r), uint64(r.Intn(40))
	x, e := s.Make(node, time, cart, seller, seen, o)
	if y, f := m.make(node, time, cart, seller, seen, o); e != f || !op.Same(x, y) {
		t.Fatalf("Make: %v %v, not %v %v", x, e, y, f)
	}
	return x, e
}

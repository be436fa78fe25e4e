package store

import (
	"bytes"
	"math"
	"slices"
	"testing"

	"trug/api"
	"trug/clock"
	"trug/label"
	"trug/lines"
	"trug/mark"
	"trug/op"
	"trug/wire"
)

// most is the greatest vector that may be.
var most = filled(api.MaxCount)

// filled is a vector of one number.
func filled(n uint32) (v api.Vector) {
	for i := range v {
		v[i] = n
	}
	return v
}

// model is a store by the words of the document.
type model struct {
	events []op.Event          // those that are there, as they came
	known  map[int][12]uint32  // by carts
	has    map[[3]int]op.Event // by Cart, Node, N
}

// newModel is a store without events.
func newModel() *model { return &model{known: map[int][12]uint32{}, has: map[[3]int]op.Event{}} }

// at is an event of a cart and a seller: the Nth one of a node.
func at(cart, seller, node int, n uint32, deps api.Vector) op.Event {
	deps[node-1] = n - 1
	l := label.Label{Time: 7, Node: node, N: n, Cart: cart, Seller: seller, Deps: deps}
	return op.Event{Label: l, Op: op.Op{Kind: 1, Sku: 5, Qty: 2}}
}

// come lets an event come.
func (m *model) come(x op.Event) {
	m.events = append(m.events, x)
	m.has[[3]int{x.Label.Cart, x.Label.Node, int(x.Label.N)}] = x
	v := m.known[x.Label.Cart]
	for i, n := range x.Label.Deps {
		v[i] = max(v[i], n)
	}
	v[x.Label.Node-1] = max(v[x.Label.Node-1], x.Label.N)
	m.known[x.Label.Cart] = v
}

// purge lets a seller's events be gone; how many.
func (m *model) purge(seller int) int {
	n := len(m.events)
	m.events = slices.DeleteFunc(m.events, func(x op.Event) bool { return x.Label.Seller == seller })
	m.has = map[[3]int]op.Event{}
	for _, x := range m.events {
		m.has[[3]int{x.Label.Cart, x.Label.Node, int(x.Label.N)}] = x
	}
	return n - len(m.events)
}

// of is a seller's events, in order.
func (m *model) of(seller int) []op.Event {
	var list []op.Event
	for _, x := range m.events {
		if x.Label.Seller == seller {
			list = append(list, x)
		}
	}
	key := func(x op.Event) []int { return []int{x.Label.Cart, x.Label.Node, int(x.Label.N)} }
	slices.SortFunc(list, func(a, b op.Event) int { return slices.Compare(key(a), key(b)) })
	return list
}

// raw is the bytes that the document gives a store, whatever it knows.
func raw(known func(cart int) api.Vector, events ...op.Event) []byte {
	w := wire.New()
	for cart := 1; cart <= 12; cart++ {
		w.Vector(known(cart))
	}
	w.Num(uint64(len(events)))
	for _, x := range events {
		op.Put(w, x)
	}
	return w.Bytes()
}

// raw is the bytes that the document gives a store.
func (m *model) raw() []byte {
	var list []op.Event
	for seller := 1; seller <= 12; seller++ {
		list = append(list, m.of(seller)...)
	}
	return raw(func(cart int) api.Vector { return m.known[cart] }, list...)
}

// numbers is the carts', sellers' and nodes' numbers, and such as are none's.
func numbers() []int {
	list := []int{0, -1, 13, 14, math.MinInt, math.MaxInt, 1 << 32, 1<<32 + 1, 1<<32 + 12, -12}
	for n := 1; n <= 12; n++ {
		list = append(list, n)
	}
	return list
}

// isOne tells whether a number is a cart's, a seller's, a node's.
func isOne(n int) bool { return n >= 1 && n <= 12 }

// put is the bytes of a store.
func put(s *Store) []byte {
	w := wire.New()
	s.Put(w)
	return w.Bytes()
}

// has asks all that a store tells, and its bytes.
func has(t *testing.T, s *Store, m *model) {
	t.Helper()
	if s.Len() != len(m.events) {
		t.Fatalf("Len: %d, not %d", s.Len(), len(m.events))
	}
	var sellers []int
	for _, n := range numbers() {
		if got := s.Known(n); got != m.known[n] {
			t.Fatalf("Known(%d): %v, not %v", n, got, m.known[n])
		}
		list := m.of(n)
		if got := s.Events(n); !slices.EqualFunc(got, list, op.Same) {
			t.Fatalf("Events(%d): %v, not %v", n, got, list)
		}
		if len(list) > 0 {
			sellers = append(sellers, n)
		}
	}
	if got := s.Sellers(); !slices.Equal(got, sellers) {
		t.Fatalf("Sellers: %v, not %v", got, sellers)
	}
	for _, x := range m.events {
		wantHas(t, s, x, true)
	}
	if b := put(s); !bytes.Equal(b, m.raw()) {
		t.Fatalf("Put: %x, not %x", b, m.raw())
	}
}

// wantHas asks whether an event is there.
func wantHas(t *testing.T, s *Store, x op.Event, want bool) {
	t.Helper()
	if s.Has(x.Label.Cart, x.Label.Seller, label.Dot(x.Label)) != want {
		t.Fatalf("Has, of %v: not %t", x.Label, want)
	}
}

// comes asks for an event that comes.
func (m *model) comes(t *testing.T, s *Store, x op.Event) {
	t.Helper()
	if came, e := s.Add(x); !came || e != api.OK {
		t.Fatalf("Add of %v: %t %v", x, came, e)
	}
	m.come(x)
}

// passes asks for an event that does not come.
func passes(t *testing.T, s *Store, x op.Event, want api.Errno) {
	t.Helper()
	if came, e := s.Add(x); came || e != want {
		t.Fatalf("Add of %v: %t %v, not %v", x, came, e, want)
	}
}

// of is a store of events, and its model.
func of(t *testing.T, events ...op.Event) (*Store, *model) {
	t.Helper()
	s, m := New(), newModel()
	for _, x := range events {
		m.comes(t, s, x)
	}
	return s, m
}

// full is a store with as many events as may be, and its model: of the cart 2, the nodes 3 and 4, the sellers 1 and 9.
func full(t *testing.T) (*Store, *model) {
	t.Helper()
	s, m := New(), newModel()
	for n := range uint32(api.MaxEvents / 2) {
		m.comes(t, s, at(2, 1, 3, n+1, api.Vector{}))
		m.comes(t, s, at(2, 9, 4, n+1, api.Vector{}))
	}
	return s, m
}

// TestNew: P22.1, without events, and nothing is known.
func TestNew(t *testing.T) {
	s, m := New(), newModel()
	has(t, s, m)
	m.comes(t, s, at(1, 2, 3, 1, api.Vector{}))
	has(t, s, m)
	has(t, New(), newModel()) // another one
}

// TestNil: P22.1 and P1, of nil, and of a store that no call made.
func TestNil(t *testing.T) {
	x := at(1, 2, 3, 1, api.Vector{})
	for _, s := range []*Store{nil, {}, new(Store)} {
		if s.Len() != 0 || len(s.Sellers()) != 0 || len(put(s)) != 0 {
			t.Errorf("Len %d, Sellers %v, Put %x", s.Len(), s.Sellers(), put(s))
		}
		s.Put(nil)
		for _, n := range numbers() {
			if s.Known(n) != (api.Vector{}) || len(s.Events(n)) != 0 || s.Purge(n) != 0 {
				t.Errorf("of %d: %v %v", n, s.Known(n), s.Events(n))
			}
			if s.Has(n, 2, label.Dot(x.Label)) || s.Has(1, n, clock.Dot{}) || len(s.Lines(1, n, api.Vector{}, most)) != 0 {
				t.Errorf("of %d: something is there", n)
			}
			for _, seen := range []api.Vector{{}, filled(math.MaxUint32)} { // ahead of all other errors
				if y, e := s.Make(n, 1, 1, 1, seen, x.Op); y != (op.Event{}) || e != api.ErrNil {
					t.Errorf("Make: %v %v", y, e)
				}
				if y, e := s.Make(1, 0, n, n, seen, op.Op{}); y != (op.Event{}) || e != api.ErrNil {
					t.Errorf("Make: %v %v", y, e)
				}
			}
		}
		passes(t, s, x, api.ErrNil)
		passes(t, s, op.Event{}, api.ErrNil)
		wantHas(t, s, x, false)
	}
}

// TestAdd: P22.3, an event comes; one of its cart with its dot does not, whatever else it is, and nothing is known by that.
func TestAdd(t *testing.T) {
	s, m := of(t, at(1, 2, 3, 1, api.Vector{4}))
	has(t, s, m)
	passes(t, s, at(1, 2, 3, 1, api.Vector{4}), api.OK)
	has(t, s, m)
	for seller := 1; seller <= 12; seller++ {
		passes(t, s, at(1, seller, 3, 1, api.Vector{9, 9, 0, 9}), api.OK)
	}
	other := at(1, 2, 3, 1, api.Vector{4})
	other.Op.Qty, other.Label.Time = 3, 8
	passes(t, s, other, api.OK)
	has(t, s, m)
	for _, x := range []op.Event{
		at(2, 2, 3, 1, api.Vector{}), at(1, 2, 4, 1, api.Vector{0, 0, 1}), at(1, 5, 3, 9, api.Vector{}), at(12, 12, 12, 1, api.Vector{}), at(1, 1, 1, 1, api.Vector{}),
	} {
		m.comes(t, s, x)
		has(t, s, m)
		passes(t, s, x, api.OK)
	}
	has(t, s, m)
}

// TestAddEdges: P22.3, events at the edges of what may be come.
func TestAddEdges(t *testing.T) {
	s, m := New(), newModel()
	greatest := at(12, 12, 12, api.MaxCount, filled(api.MaxCount))
	greatest.Label.Time = api.MaxTime
	m.comes(t, s, greatest)
	has(t, s, m)
	for i, o := range []op.Op{
		{Kind: 1, Sku: 40, Qty: 1000}, {Kind: 2, Sku: 1, Qty: -1000}, {Kind: 3, Sku: 9}, {Kind: 4}, {Kind: 5, Sku: 9, Qty: 3},
		{Kind: 6, Sku: 9, Price: math.Float64frombits(0xFFF0000000000001)}, {Kind: 6, Sku: 9, Price: math.Copysign(0, -1)}, {Kind: 6, Sku: 9, Price: math.Inf(1)},
	} {
		x := at(3, 4, 5, uint32(i+1), api.Vector{})
		x.Op = o
		m.comes(t, s, x)
		has(t, s, m)
	}
}

// wrong is events that may not be.
func wrong() []op.Event {
	var list []op.Event
	for _, spoil := range []func(x *op.Event){
		func(x *op.Event) { *x = op.Event{} },
		func(x *op.Event) { x.Label.Cart = 0 },
		func(x *op.Event) { x.Label.Cart = 13 },
		func(x *op.Event) { x.Label.Cart = -1 },
		func(x *op.Event) { x.Label.Cart = 1<<32 + 2 },
		func(x *op.Event) { x.Label.Seller = 0 },
		func(x *op.Event) { x.Label.Seller = 13 },
		func(x *op.Event) { x.Label.Time = 0 },
		func(x *op.Event) { x.Label.Time = api.MaxTime + 1 },
		func(x *op.Event) { x.Label.N = 0 },
		func(x *op.Event) { x.Label.N = 2 },
		func(x *op.Event) { x.Label.Node = 0 },
		func(x *op.Event) { x.Label.Node = 13 },
		func(x *op.Event) { x.Label.Deps[2] = 1 },
		func(x *op.Event) { x.Label.Deps[11] = api.MaxCount + 1 },
		func(x *op.Event) { x.Op.Kind = 0 },
		func(x *op.Event) { x.Op.Kind = 7 },
		func(x *op.Event) { x.Op.Sku = 41 },
		func(x *op.Event) { x.Op.Qty = 0 },
		func(x *op.Event) { x.Op.Price = math.Copysign(0, -1) },
	} {
		x := at(2, 1, 3, 1, api.Vector{})
		spoil(&x)
		list = append(list, x)
	}
	return list
}

// TestAddWrong: P22.3, what may not be does not come, whatever stands there, and nothing is known by it.
func TestAddWrong(t *testing.T) {
	some, m := of(t, at(2, 1, 3, 1, api.Vector{4}))
	all, n := full(t)
	for _, x := range wrong() {
		passes(t, New(), x, api.ErrForm)
		passes(t, some, x, api.ErrForm)
		passes(t, all, x, api.ErrForm)
	}
	has(t, some, m)
	has(t, all, n)
}

// TestAddFull: P22.3, at MaxEvents nothing comes any more, till a seller is purged; what is there is not refused.
func TestAddFull(t *testing.T) {
	s, m := full(t)
	if s.Len() != 200 {
		t.Fatalf("Len: %d", s.Len())
	}
	for _, x := range []op.Event{at(2, 1, 3, 101, api.Vector{}), at(1, 1, 3, 1, api.Vector{}), at(2, 5, 5, 1, api.Vector{7})} {
		passes(t, s, x, api.ErrFull)
	}
	for _, x := range append(m.of(1), m.of(9)...) {
		passes(t, s, x, api.OK)
		x.Label.Seller = 7
		passes(t, s, x, api.OK)
	}
	has(t, s, m)
	if n := s.Purge(9); n != 100 || m.purge(9) != 100 {
		t.Fatalf("Purge: %d", n)
	}
	has(t, s, m)
	for n := range uint32(100) {
		m.comes(t, s, at(1, 3, 3, n+1, api.Vector{}))
	}
	passes(t, s, at(1, 3, 3, 101, api.Vector{}), api.ErrFull)
	has(t, s, m)
}

// TestEvents: P22.1, by Cart, Node, N, in whatever order they came; Has of each, and of what is unlike it.
func TestEvents(t *testing.T) {
	var list []op.Event
	for _, n := range []uint32{300, 2, 1, 11} {
		for _, node := range []int{12, 2, 1} {
			for _, cart := range []int{10, 2, 9} {
				list = append(list, at(cart, 1+(cart+node+int(n))%3, node, n, api.Vector{}))
			}
		}
	}
	s, m := of(t, list...)
	has(t, s, m)
	for _, x := range list {
		d := label.Dot(x.Label)
		for _, n := range numbers() {
			if s.Has(x.Label.Cart, n, d) != (n == x.Label.Seller) {
				t.Fatalf("Has(%d, %d, %v)", x.Label.Cart, n, d)
			}
		}
		for _, cart := range append(numbers()[:10:10], 1, 3, 12) {
			if s.Has(cart, x.Label.Seller, d) {
				t.Fatalf("Has(%d, %d, %v)", cart, x.Label.Seller, d)
			}
		}
		for _, y := range []clock.Dot{{}, {Node: d.Node}, {Node: d.Node, N: 3}, {Node: d.Node, N: 299}, {N: d.N}, {Node: 13, N: d.N}, {Node: 3, N: d.N}, {Node: d.Node + 1<<32, N: d.N}, {Node: -d.Node, N: d.N}} {
			if s.Has(x.Label.Cart, x.Label.Seller, y) {
				t.Fatalf("Has(%d, %d, %v)", x.Label.Cart, x.Label.Seller, y)
			}
		}
	}
}

// TestPurge: P22.3 and P22.6, a seller's events are gone, of all carts, those of others stay, what is known stays; what comes again comes anew.
func TestPurge(t *testing.T) {
	list := []op.Event{
		at(1, 2, 3, 1, api.Vector{4}), at(5, 2, 3, 1, api.Vector{0, 6}), at(1, 4, 3, 2, api.Vector{}), at(1, 2, 12, 1, api.Vector{}), at(5, 12, 4, 1, api.Vector{}),
	}
	s, m := of(t, list...)
	for _, n := range append(numbers()[:10:10], 1, 3, 11) {
		if got := s.Purge(n); got != 0 {
			t.Fatalf("Purge(%d): %d", n, got)
		}
	}
	has(t, s, m)
	if n := s.Purge(2); n != 3 || m.purge(2) != 3 {
		t.Fatalf("Purge: %d", n)
	}
	has(t, s, m)
	for i, x := range list {
		wantHas(t, s, x, i == 2 || i == 4)
	}
	if s.Known(1) != (api.Vector{4, 0, 2, 11: 1}) || s.Known(5) != (api.Vector{0, 6, 1, 1}) {
		t.Fatalf("Known: %v %v", s.Known(1), s.Known(5))
	}
	if n := s.Purge(2); n != 0 {
		t.Fatalf("Purge again: %d", n)
	}
	passes(t, s, list[2], api.OK)
	again := list[0]
	again.Op.Qty, again.Label.Seller = 9, 7 // nothing is left of the one that was there
	m.comes(t, s, again)
	has(t, s, m)
	passes(t, s, list[0], api.OK)
	m.comes(t, s, list[1])
	m.comes(t, s, list[3])
	has(t, s, m)
}

// TestLines: P22.1, the lines of a cart's events at a seller, from a vector to another one.
func TestLines(t *testing.T) {
	with := func(x op.Event, o op.Op) op.Event { x.Op = o; return x }
	s, m := of(t,
		at(1, 2, 3, 1, api.Vector{}),                                                 // 2 of 5
		with(at(1, 2, 3, 2, api.Vector{}), op.Op{Kind: 1, Sku: 7, Qty: 4}),           // 4 of 7
		with(at(1, 2, 4, 1, api.Vector{0, 0, 1}), op.Op{Kind: 3, Sku: 5}),            // the first one is taken away
		with(at(1, 2, 1, 1, api.Vector{}), op.Op{Kind: 6, Sku: 7, Price: 1.5}),       // a price of 7
		with(at(1, 3, 5, 1, api.Vector{3: 1}), op.Op{Kind: 4}),                       // of another seller
		with(at(2, 2, 5, 1, api.Vector{0, 0, 9, 9}), op.Op{Kind: 1, Sku: 1, Qty: 1}), // of another cart
		with(at(1, 3, 6, 1, api.Vector{}), op.Op{Kind: 1, Sku: 5, Qty: 30}),
	)
	want := func(cart, seller int, from, to api.Vector, want ...lines.Line) {
		t.Helper()
		if got := s.Lines(cart, seller, from, to); !lines.Same(got, want) {
			t.Errorf("Lines(%d, %d, %v, %v): %v, not %v", cart, seller, from, to, got, want)
		}
	}
	none := api.Vector{}
	want(1, 2, none, most, lines.Line{Sku: 7, Qty: 4, Mark: mark.Price(1.5)})
	want(1, 2, none, api.Vector{0, 0, 2}, lines.Line{Sku: 5, Qty: 2}, lines.Line{Sku: 7, Qty: 4})
	want(1, 2, api.Vector{0, 0, 1}, api.Vector{0, 0, 2}, lines.Line{Sku: 7, Qty: 4})
	want(1, 2, api.Vector{1}, most, lines.Line{Sku: 7, Qty: 4})
	want(1, 2, none, none)
	want(1, 3, none, most, lines.Line{Sku: 5, Qty: 30})
	want(2, 2, none, most, lines.Line{Sku: 1, Qty: 1})
	want(2, 3, none, most)
	for _, n := range numbers() {
		if !isOne(n) {
			want(n, 2, none, most)
			want(1, n, none, most)
		}
	}
	s.Purge(2)
	m.purge(2)
	want(1, 2, none, most)
	want(1, 3, none, most, lines.Line{Sku: 5, Qty: 30})
	has(t, s, m)
}

// TestOwnMemory: the rule 5: what is handed out is new.
func TestOwnMemory(t *testing.T) {
	s, m := of(t, at(1, 2, 3, 1, api.Vector{4}), at(1, 2, 3, 2, api.Vector{}), at(1, 4, 5, 1, api.Vector{}))
	list := s.Events(2)
	for i := range list {
		list[i] = op.Event{}
	}
	_ = append(list, at(1, 2, 3, 3, api.Vector{}))
	for i, sellers := 0, s.Sellers(); i < len(sellers); i++ {
		sellers[i] = 12
	}
	for i, l := 0, s.Lines(1, 2, api.Vector{}, most); i < len(l); i++ {
		l[i] = lines.Line{}
	}
	has(t, s, m)
}

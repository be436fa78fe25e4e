package op

import (
	"math"
	"math/rand"
	"testing"

	"trug/api"
	"trug/label"
)

const (
	minus = math.MinInt
	plus  = math.MaxInt
)

// prices is floats at the edges, of many bits.
func prices() []float64 {
	l := []float64{0, math.Copysign(0, -1), 1, -2.5, math.MaxFloat64, math.SmallestNonzeroFloat64, math.Inf(1), math.Inf(-1)}
	for _, bits := range []uint64{0x7FF8000000000001, 0x7FF0000000000001, 0x7FF8000000000000, 0xFFF8000000000001, math.MaxUint64} {
		l = append(l, math.Float64frombits(bits))
	}
	return l
}

// ops is ops that may be: all edges of each kind.
func ops() []Op {
	l := []Op{{Kind: 4}}
	for _, sku := range []int{1, 2, 39, 40} {
		for _, n := range []int{1, 2, 999, 1000} {
			l = append(l, Op{Kind: 1, Sku: sku, Qty: n}, Op{Kind: 2, Sku: sku, Qty: n}, Op{Kind: 2, Sku: sku, Qty: -n})
		}
		for _, n := range []int{1, 2, 3} {
			l = append(l, Op{Kind: 5, Sku: sku, Qty: n})
		}
		for _, f := range prices() {
			l = append(l, Op{Kind: 6, Sku: sku, Price: f})
		}
		l = append(l, Op{Kind: 3, Sku: sku})
	}
	return l
}

// noOps is ops of which just one thing may not be.
func noOps() []Op {
	l := []Op{{}, {Sku: 1, Qty: 1}, {Kind: 4, Sku: 1}, {Kind: 4, Sku: -1}, {Kind: 4, Qty: 1}, {Kind: 4, Qty: -1}}
	for _, kind := range []int{0, 7, 8, -1, minus, plus, 1 << 32, 1<<32 + 1} {
		l = append(l, Op{Kind: kind}, Op{Kind: kind, Sku: 1}, Op{Kind: kind, Sku: 1, Qty: 1})
	}
	for _, sku := range []int{0, 41, -1, minus, plus, 1 << 32, 1<<32 + 1} {
		l = append(l, Op{Kind: 1, Sku: sku, Qty: 1}, Op{Kind: 2, Sku: sku, Qty: -1}, Op{Kind: 3, Sku: sku},
			Op{Kind: 5, Sku: sku, Qty: 1}, Op{Kind: 6, Sku: sku}, Op{Kind: 6, Sku: sku, Price: 1})
	}
	for _, n := range []int{0, 1001, minus, plus, 1 << 32, 1<<32 + 1} {
		l = append(l, Op{Kind: 1, Sku: 1, Qty: n}, Op{Kind: 2, Sku: 1, Qty: n}, Op{Kind: 5, Sku: 1, Qty: n})
	}
	l = append(l, Op{Kind: 1, Sku: 1, Qty: -1}, Op{Kind: 5, Sku: 1, Qty: -1}, Op{Kind: 5, Sku: 1, Qty: 4}, Op{Kind: 2, Sku: 1, Qty: -1001})
	for _, n := range []int{1, -1} {
		l = append(l, Op{Kind: 3, Sku: 1, Qty: n}, Op{Kind: 6, Sku: 1, Qty: n})
	}
	for _, f := range prices()[1:] {
		l = append(l, Op{Kind: 1, Sku: 1, Qty: 1, Price: f}, Op{Kind: 2, Sku: 1, Qty: 1, Price: f}, Op{Kind: 3, Sku: 1, Price: f},
			Op{Kind: 4, Price: f}, Op{Kind: 5, Sku: 1, Qty: 1, Price: f})
	}
	return l
}

// labels is labels of events, that may be.
func labels() []label.Label {
	return []label.Label{
		{Time: 3, Node: 2, N: 1, Cart: 1, Seller: 4},
		{Time: 300, Node: 1, N: 2, Cart: 12, Seller: 1, Deps: api.Vector{1, 200, 11: 3}},
		{Time: api.MaxTime, Node: 12, N: api.MaxCount, Cart: 12, Seller: 12, Deps: api.Vector{0: api.MaxCount, 11: api.MaxCount - 1}},
	}
}

// noLabels is labels that may not be, and one that may, but is no event's.
func noLabels() []label.Label {
	ok := label.Label{Time: 3, Node: 2, N: 1, Cart: 1, Seller: 4}
	l := []label.Label{{}, ok, ok, ok, ok, ok, ok}
	l[1].Seller = 0
	l[2].Seller = 13
	l[3].Time = 0
	l[4].N = 2
	l[5].Cart = -1
	l[6].Deps[1] = 1
	return l
}

// events is events that may be.
func events() []Event {
	var l []Event
	for _, o := range ops() {
		for _, x := range labels() {
			l = append(l, Event{x, o})
		}
	}
	return l
}

// noEvents is events of which the label, or the op, may not be.
func noEvents() []Event {
	l := []Event{{}}
	for _, o := range noOps() {
		l = append(l, Event{labels()[0], o})
	}
	for _, x := range noLabels() {
		l = append(l, Event{x, Op{Kind: 4}}, Event{x, Op{Kind: 1, Sku: 5, Qty: 2}})
	}
	return l
}

// TestMay: P6.1, which ops may be, and which of these are a customer's.
func TestMay(t *testing.T) {
	for _, o := range ops() {
		if !May(o) || Customers(o) != (o.Kind <= 4) {
			t.Errorf("of %v: %v, %v", o, May(o), Customers(o))
		}
	}
	for _, o := range noOps() {
		if May(o) || Customers(o) {
			t.Errorf("of %v: %v, %v", o, May(o), Customers(o))
		}
	}
}

// TestMayAll: P6.1, each kind with each sku and quantity near the limits, by the words of the document.
func TestMayAll(t *testing.T) {
	for kind := -1; kind <= 8; kind++ {
		for sku := -1; sku <= 42; sku++ {
			for n := -1002; n <= 1002; n++ {
				isSku, want := sku >= 1 && sku <= 40, false
				switch kind {
				case 1:
					want = isSku && n >= 1 && n <= 1000
				case 2:
					want = isSku && n != 0 && n >= -1000 && n <= 1000
				case 3, 6:
					want = isSku && n == 0
				case 4:
					want = sku == 0 && n == 0
				case 5:
					want = isSku && n >= 1 && n <= 3
				}
				if o := (Op{Kind: kind, Sku: sku, Qty: n}); May(o) != want {
					t.Fatalf("May(%v): %v", o, May(o))
				}
			}
		}
	}
}

// TestRight: P6.1, which events may be.
func TestRight(t *testing.T) {
	for _, x := range events() {
		if !Right(x) {
			t.Errorf("Right(%v): false", x)
		}
	}
	for _, x := range noEvents() {
		if Right(x) {
			t.Errorf("Right(%v): true", x)
		}
	}
}

// TestSame: P6.1, events are equal just if all of them is, Prices by their bits.
func TestSame(t *testing.T) {
	ok := Event{labels()[1], Op{Kind: 6, Sku: 3, Qty: 2, Price: 2.5}}
	for i, change := range []func(x *Event){
		func(x *Event) { x.Label.Time++ }, func(x *Event) { x.Label.Node++ }, func(x *Event) { x.Label.N++ },
		func(x *Event) { x.Label.Cart++ }, func(x *Event) { x.Label.Seller++ }, func(x *Event) { x.Label.Deps[11]++ },
		func(x *Event) { x.Op.Kind++ }, func(x *Event) { x.Op.Sku++ }, func(x *Event) { x.Op.Qty++ },
		func(x *Event) { x.Op.Price = -2.5 }, func(x *Event) { x.Op.Price = math.Nextafter(2.5, 3) },
	} {
		y := ok
		change(&y)
		if Same(ok, y) || Same(y, ok) || !Same(y, y) {
			t.Errorf("Same, at %d: %v and %v", i, ok, y)
		}
	}
	for i, f := range prices() {
		for k, g := range prices() {
			x, y := ok, ok
			x.Op.Price, y.Op.Price = f, g
			if Same(x, y) != (i == k) {
				t.Errorf("Same, of the prices %x and %x: %v", math.Float64bits(f), math.Float64bits(g), Same(x, y))
			}
		}
	}
	if !Same(ok, ok) || !Same(Event{}, Event{}) {
		t.Errorf("Same, of one and the same: false")
	}
}

// TestSameMany: P6.1, of many events those alone are equal that stand at one place.
func TestSameMany(t *testing.T) {
	l := append(events(), noEvents()...)
	r := rand.New(rand.NewSource(1))
	for range 20000 {
		i, k := r.Intn(len(events())), r.Intn(len(l))
		if Same(l[i], l[k]) != (i == k) {
			t.Fatalf("Same(%v, %v): %v", l[i], l[k], i != k)
		}
	}
}

package lines

import (
	"math"
	"math/rand"
	"slices"
	"testing"

	"trug/api"
	"trug/clock"
	"trug/label"
	"trug/mark"
	"trug/op"
)

var (
	minus0 = math.Copysign(0, -1)
	full   = api.Vector{9, 9, 9, 9, 9, 9, 9, 9, 9, 9, 9, 9}
)

// at is an event of the cart 1 at the seller 1: the Nth one of a node.
func at(node int, n uint32, deps api.Vector, o op.Op) op.Event {
	deps[node-1] = n - 1
	return op.Event{Label: label.Label{Time: 1, Node: node, N: n, Cart: 1, Seller: 1, Deps: deps}, Op: o}
}

func added(sku, qty int) op.Op        { return op.Op{Kind: 1, Sku: sku, Qty: qty} }
func changed(sku, qty int) op.Op      { return op.Op{Kind: 2, Sku: sku, Qty: qty} }
func removed(sku int) op.Op           { return op.Op{Kind: 3, Sku: sku} }
func cleared() op.Op                  { return op.Op{Kind: 4} }
func flagged(sku, n int) op.Op        { return op.Op{Kind: 5, Sku: sku, Qty: n} }
func priced(sku int, f float64) op.Op { return op.Op{Kind: 6, Sku: sku, Price: f} }

// want asks for lines of the cart 1 at the seller 1, of all events.
func want(t *testing.T, what string, l []op.Event, to api.Vector, want ...Line) {
	t.Helper()
	if got := Of(l, 1, 1, api.Vector{}, to); !Same(got, want) {
		t.Errorf("%s: %v, want %v", what, got, want)
	}
}

// TestQty: P8.1, quantities are the sums of adds and changes; at least 0.
func TestQty(t *testing.T) {
	var v api.Vector
	want(t, "nothing", nil, full)
	want(t, "an add", []op.Event{at(1, 1, v, added(5, 2))}, full, Line{Sku: 5, Qty: 2})
	want(t, "a change by less", []op.Event{at(1, 1, v, added(5, 2)), at(1, 2, v, changed(5, -3))}, full, Line{Sku: 5})
	want(t, "below nought on the way", []op.Event{at(1, 1, v, added(5, 2)), at(2, 1, v, changed(5, -3)), at(3, 1, v, changed(5, 4))}, full, Line{Sku: 5, Qty: 3})
	want(t, "below nought at first", []op.Event{at(2, 1, v, changed(5, -3)), at(1, 1, v, added(5, 2))}, full, Line{Sku: 5})
	want(t, "adds", []op.Event{at(1, 1, v, added(5, 1000)), at(1, 2, v, added(5, 1000)), at(2, 1, v, added(5, 7))}, full, Line{Sku: 5, Qty: 2007})
	want(t, "a change alone", []op.Event{at(1, 1, v, changed(5, 3))}, full)
	want(t, "a flag and a price alone", []op.Event{at(1, 1, v, flagged(5, 3)), at(1, 2, v, priced(5, 1))}, full)
	want(t, "by Sku", []op.Event{at(1, 1, v, added(40, 1)), at(2, 1, v, added(1, 2)), at(3, 1, v, added(7, 3))}, full,
		Line{Sku: 1, Qty: 2}, Line{Sku: 7, Qty: 3}, Line{Sku: 40, Qty: 1})
}

// TestMark: P8.1, marks are the joins of flags and prices of that sku.
func TestMark(t *testing.T) {
	var v api.Vector
	l := []op.Event{at(1, 1, v, added(5, 2)), at(2, 1, v, flagged(5, 1)), at(2, 2, v, flagged(5, 3)), at(3, 1, v, flagged(5, 2))}
	want(t, "flags", l, full, Line{5, 2, mark.Mark{Flag: 3}})
	l = append(l, at(4, 1, v, priced(5, -2)))
	want(t, "a price", l, full, Line{5, 2, mark.Mark{Flag: 3, Has: true, Price: -2}})
	l = append(l, at(4, 2, v, priced(5, minus0)), at(5, 1, v, priced(5, -1)), at(6, 1, v, priced(6, 9)), at(6, 2, v, flagged(4, 3)))
	want(t, "prices", l, full, Line{5, 2, mark.Mark{Flag: 3, Has: true, Price: minus0}})
	l = append(l, at(7, 1, v, priced(5, 0)))
	want(t, "noughts", l, full, Line{5, 2, mark.Mark{Flag: 3, Has: true, Price: 0}})
}

// TestTaken: P8.1, P8.3, P8.4: removes and clears take away what they depend on, of their sku or of all; the rest stays.
func TestTaken(t *testing.T) {
	var v api.Vector
	l := []op.Event{
		at(1, 1, v, added(5, 2)), at(1, 2, v, changed(5, 3)), at(1, 3, v, flagged(5, 2)), at(1, 4, v, priced(5, 7)),
		at(2, 1, v, added(6, 9)), at(3, 1, v, added(5, 1)),
	}
	all := mark.Mark{Flag: 2, Has: true, Price: 7}
	six := Line{Sku: 6, Qty: 9}
	more := func(x ...op.Event) []op.Event { return append(slices.Clone(l), x...) }
	want(t, "none", l, full, Line{5, 6, all}, six)
	want(t, "a remove of nothing", more(at(4, 1, v, removed(5))), full, Line{5, 6, all}, six)
	want(t, "a remove of an add", more(at(4, 1, api.Vector{1}, removed(5))), full, Line{5, 4, all}, six)
	want(t, "a remove of an add and a change", more(at(4, 1, api.Vector{2}, removed(5))), full, Line{5, 1, all}, six)
	want(t, "a remove of a flag", more(at(4, 1, api.Vector{3}, removed(5))), full, Line{5, 1, mark.Price(7)}, six)
	want(t, "a remove of a price", more(at(4, 1, api.Vector{4}, removed(5))), full, Line{5, 1, mark.Mark{}}, six)
	want(t, "a remove of all", more(at(4, 1, api.Vector{4, 1, 1}, removed(5))), full, six)
	want(t, "two removes", more(at(4, 1, api.Vector{4}, removed(5)), at(6, 1, api.Vector{0, 0, 1}, removed(5))), full, six)
	want(t, "a remove of the other", more(at(4, 1, api.Vector{4, 1, 1}, removed(6))), full, Line{5, 6, all})
	want(t, "a remove of none", more(at(4, 1, api.Vector{4, 1, 1}, removed(7))), full, Line{5, 6, all}, six)
	want(t, "a clear", more(at(4, 1, api.Vector{4, 1, 1}, cleared())), full)
	want(t, "a clear of some", more(at(4, 1, api.Vector{1, 1}, cleared())), full, Line{5, 4, all})
	want(t, "a clear, then an add", more(at(4, 1, api.Vector{4, 1, 1}, cleared()), at(4, 2, api.Vector{4, 1, 1}, added(5, 8))), full, Line{Sku: 5, Qty: 8})
	want(t, "an add behind its own node's remove", []op.Event{at(1, 1, v, removed(5)), at(1, 2, v, added(5, 2))}, full, Line{Sku: 5, Qty: 2})
	want(t, "an add ahead of its own node's remove", []op.Event{at(1, 2, v, removed(5)), at(1, 1, v, added(5, 2))}, full)
	want(t, "what a change depends on", more(at(4, 1, api.Vector{4, 1, 1}, changed(5, 1))), full, Line{5, 7, all}, six)
	want(t, "a change stays, the add goes", []op.Event{at(1, 1, v, added(5, 2)), at(2, 1, v, changed(5, 3)), at(3, 1, api.Vector{1}, removed(5))}, full)
}

// TestCounts: P8.1, of other carts and sellers, and of what may not be, nothing counts; what one takes away that does not count stays.
func TestCounts(t *testing.T) {
	var v api.Vector
	good := []op.Event{at(1, 1, v, added(5, 2))}
	for _, x := range []op.Event{at(2, 1, v, added(5, 4)), at(2, 1, api.Vector{1}, removed(5)), at(2, 1, api.Vector{1}, cleared()), at(2, 1, v, flagged(5, 3))} {
		for _, spoil := range []func(x *op.Event){
			func(x *op.Event) { x.Label.Cart = 2 },
			func(x *op.Event) { x.Label.Seller = 2 },
			func(x *op.Event) { x.Label.Cart = 0 },
			func(x *op.Event) { x.Label.Seller = 0 },
			func(x *op.Event) { x.Label.Time = 0 },
			func(x *op.Event) { x.Label.N = 2 },
			func(x *op.Event) { x.Label.Node = 13 },
			func(x *op.Event) { x.Label.Deps[11] = api.MaxCount + 1 },
			func(x *op.Event) { x.Op.Sku = 41 },
			func(x *op.Event) { x.Op.Qty = 1001 },
			func(x *op.Event) { x.Op.Price = minus0 },
			func(x *op.Event) { x.Op.Kind = 0 },
			func(x *op.Event) { x.Op.Kind = 7 },
		} {
			y := x
			spoil(&y)
			want(t, "what does not count, behind", append(slices.Clone(good), y), full, Line{Sku: 5, Qty: 2})
			want(t, "what does not count, ahead", append([]op.Event{y}, good...), full, Line{Sku: 5, Qty: 2})
		}
	}
	for _, c := range [][2]int{{1, 2}, {2, 1}, {0, 1}, {1, 0}, {-1, 1}, {13, 1}, {1, 13}, {math.MaxInt, math.MinInt}} {
		if l := Of(good, c[0], c[1], v, full); len(l) != 0 {
			t.Errorf("Of %v: %v", c, l)
		}
		x := good[0]
		x.Label.Cart, x.Label.Seller = c[0], c[1]
		if l := Of([]op.Event{x}, c[0], c[1], v, full); len(l) != 0 && !label.Right(x.Label) {
			t.Errorf("Of %v: %v", c, l)
		}
	}
	x := at(1, 1, v, added(5, 2))
	x.Label.Seller = 0
	if l := Of([]op.Event{x}, 1, 0, v, full); len(l) != 0 {
		t.Errorf("of no seller: %v", l)
	}
}

// TestFromTo: P8.1, what the second vector covers, and the first one does not.
func TestFromTo(t *testing.T) {
	var v api.Vector
	l := []op.Event{at(1, 1, v, added(5, 1)), at(1, 2, v, added(5, 10)), at(1, 3, v, added(5, 100)), at(2, 1, v, added(6, 3)), at(3, 1, api.Vector{3, 1}, cleared())}
	for _, c := range []struct {
		from, to api.Vector
		want     []Line
	}{
		{v, v, nil},
		{v, api.Vector{1}, []Line{{Sku: 5, Qty: 1}}},
		{v, api.Vector{2}, []Line{{Sku: 5, Qty: 11}}},
		{v, api.Vector{3, 1}, []Line{{Sku: 5, Qty: 111}, {Sku: 6, Qty: 3}}},
		{v, api.Vector{math.MaxUint32, math.MaxUint32}, []Line{{Sku: 5, Qty: 111}, {Sku: 6, Qty: 3}}},
		{v, api.Vector{0, 1}, []Line{{Sku: 6, Qty: 3}}},
		{api.Vector{1}, api.Vector{3}, []Line{{Sku: 5, Qty: 110}}},
		{api.Vector{2, 1}, api.Vector{3, 1}, []Line{{Sku: 5, Qty: 100}}},
		{api.Vector{3, 1}, api.Vector{3, 1}, nil},
		{api.Vector{3, 1}, api.Vector{1}, nil},
		{v, api.Vector{3, 1, 1}, nil},
		{api.Vector{0, 0, 1}, api.Vector{3, 1, 1}, []Line{{Sku: 5, Qty: 111}, {Sku: 6, Qty: 3}}}, // a clear that does not count takes nothing away
		{api.Vector{1, 0, 0}, api.Vector{3, 1, 1}, nil},
	} {
		if got := Of(l, 1, 1, c.from, c.to); !Same(got, c.want) {
			t.Errorf("Of from %v to %v: %v, want %v", c.from, c.to, got, c.want)
		}
	}
}

// TestTwice: P8.1, of several with one dot that count otherwise, the first one.
func TestTwice(t *testing.T) {
	var v api.Vector
	a, b := at(1, 1, v, added(5, 2)), at(1, 1, v, added(6, 3))
	want(t, "a ahead", []op.Event{a, b, a}, full, Line{Sku: 5, Qty: 2})
	want(t, "b ahead", []op.Event{b, a, b}, full, Line{Sku: 6, Qty: 3})
	c := a
	c.Op.Sku = 0
	want(t, "one that may not be ahead", []op.Event{c, b}, full, Line{Sku: 6, Qty: 3})
	c = a
	c.Label.Seller = 2
	want(t, "one of another seller ahead", []op.Event{c, b}, full, Line{Sku: 6, Qty: 3})
	c = a
	c.Label.Cart = 2
	want(t, "one of another cart ahead", []op.Event{c, b}, full, Line{Sku: 6, Qty: 3})
	want(t, "a remove behind one of its dot", []op.Event{b, at(2, 1, v, added(5, 1)), at(2, 1, api.Vector{1}, removed(6))}, full, Line{Sku: 5, Qty: 1}, Line{Sku: 6, Qty: 3})
}

// some is a list of events at random: of few dots, so that they meet; some of them may not be.
func some(r *rand.Rand, n int) []op.Event {
	var l []op.Event
	for range n {
		var deps api.Vector
		for i := range 4 {
			deps[i] = uint32(max(0, r.Intn(6)-2))
		}
		o := []op.Op{added(1+r.Intn(3), 1+r.Intn(9)), added(1+r.Intn(3), 1+r.Intn(9)), changed(1+r.Intn(3), r.Intn(9)-4), removed(1 + r.Intn(3)), cleared(), flagged(1+r.Intn(3), 1+r.Intn(4)), priced(1+r.Intn(3), float64(r.Intn(5)-2))}[r.Intn(7)]
		x := at(1+r.Intn(4), 1+uint32(r.Intn(4)), deps, o)
		if o.Kind == 4 && r.Intn(2) == 0 {
			x.Label.Deps = api.Vector{}
			x.Label.Deps[x.Label.Node-1] = x.Label.N - 1
		}
		x.Label.Cart, x.Label.Seller = 1+r.Intn(8)/7, 1+r.Intn(8)/7
		if r.Intn(12) == 0 {
			x.Label.Time = 0
		}
		l = append(l, x)
	}
	return l
}

// once is a list with one event of each cart and dot.
func once(l []op.Event) []op.Event {
	var out []op.Event
	for _, x := range l {
		twice := func(y op.Event) bool {
			return y.Label.Cart == x.Label.Cart && label.Dot(y.Label) == label.Dot(x.Label)
		}
		if !slices.ContainsFunc(out, twice) {
			out = append(out, x)
		}
	}
	return out
}

// plain is what counts, word by word.
func plain(l []op.Event, cart, seller int, from, to api.Vector) []op.Event {
	var out []op.Event
	for _, x := range l {
		d := label.Dot(x.Label)
		has := func(y op.Event) bool { return label.Dot(y.Label) == d }
		if op.Right(x) && x.Label.Cart == cart && x.Label.Seller == seller && clock.Has(to, d) && !clock.Has(from, d) && !slices.ContainsFunc(out, has) {
			out = append(out, x)
		}
	}
	return out
}

// worded is the lines, word by word.
func worded(l []op.Event, cart, seller int, from, to api.Vector) []Line {
	counts := plain(l, cart, seller, from, to)
	var out []Line
	for sku := 1; sku <= api.MaxSku; sku++ {
		line, there := Line{Sku: sku}, false
		for _, x := range counts {
			away := func(y op.Event) bool {
				return (y.Op.Kind == 3 && y.Op.Sku == sku || y.Op.Kind == 4) && clock.Has(y.Label.Deps, label.Dot(x.Label))
			}
			if x.Op.Sku != sku || slices.ContainsFunc(counts, away) {
				continue
			}
			there = there || x.Op.Kind == 1
			switch x.Op.Kind {
			case 1, 2:
				line.Qty += x.Op.Qty
			case 5:
				line.Mark.Flag = max(line.Mark.Flag, x.Op.Qty)
			case 6:
				line.Mark = mark.Join(line.Mark, mark.Price(x.Op.Price))
			}
		}
		line.Qty = max(line.Qty, 0)
		if there {
			out = append(out, line)
		}
	}
	return out
}

func few(r *rand.Rand) api.Vector {
	var v api.Vector
	for i := range 4 {
		v[i] = uint32(r.Intn(5))
	}
	return v
}

// TestOf: P8.1, the lines of many lists, against the words of the document; what is handed in stays as it was.
func TestOf(t *testing.T) {
	r := rand.New(rand.NewSource(81))
	lines := 0
	for range 20000 {
		l := some(r, r.Intn(14))
		was := slices.Clone(l)
		from, to := clock.Meet(few(r), few(r)), few(r)
		if r.Intn(2) == 0 {
			from = api.Vector{}
		}
		got, want := Of(l, 1, 1, from, to), worded(l, 1, 1, from, to)
		if !Same(got, want) {
			t.Fatalf("Of %v from %v to %v: %v, want %v", l, from, to, got, want)
		}
		if !slices.EqualFunc(l, was, op.Same) {
			t.Fatalf("Of changed %v to %v", was, l)
		}
		lines += len(got)
	}
	if lines < 5000 {
		t.Errorf("just %d lines: of little worth", lines)
	}
}

// TestOrder: P8.2, the lines do not hang on the order, or on how often an event stands there; lists are merged by putting them together.
func TestOrder(t *testing.T) {
	r := rand.New(rand.NewSource(82))
	for range 5000 {
		l := once(some(r, r.Intn(14)))
		to := few(r)
		want := Of(l, 1, 1, api.Vector{}, to)
		for i := range l {
			if r.Intn(2) == 0 {
				l = append(l, l[i])
			}
		}
		r.Shuffle(len(l), func(i, j int) { l[i], l[j] = l[j], l[i] })
		if got := Of(l, 1, 1, api.Vector{}, to); !Same(got, want) {
			t.Fatalf("Of %v: %v, want %v", l, got, want)
		}
	}
}

// TestObserved: P8.3, an add that no remove and no clear depends on stays, whatever is removed; P8.4, what happens of a sku does not touch the others, but for clears.
func TestObserved(t *testing.T) {
	r := rand.New(rand.NewSource(83))
	for range 3000 {
		l := once(some(r, r.Intn(14)))
		fresh := at(12, 1, api.Vector{}, added(3, 1))
		got := Of(append(slices.Clone(l), fresh), 1, 1, api.Vector{}, full)
		if len(got) == 0 || got[len(got)-1].Sku != 3 {
			t.Fatalf("Of %v: %v, the add of 3 is gone", l, got)
		}
		l = slices.DeleteFunc(l, func(x op.Event) bool { return x.Op.Kind == 4 })
		without := slices.DeleteFunc(slices.Clone(l), func(x op.Event) bool { return x.Op.Sku == 2 })
		other := func(x Line) bool { return x.Sku == 2 }
		a, b := Of(l, 1, 1, api.Vector{}, full), Of(without, 1, 1, api.Vector{}, full)
		if a = slices.DeleteFunc(a, other); !Same(a, b) {
			t.Fatalf("Of %v: %v with the sku 2, %v without", l, a, b)
		}
	}
}

// TestSame: P8.1, the same lines, in order, Prices by their bits.
func TestSame(t *testing.T) {
	lists := [][]Line{
		nil, {{}}, {{Sku: 1}}, {{Sku: 1}, {Sku: 2}}, {{Sku: 2}, {Sku: 1}}, {{Sku: 1}, {Sku: 2}, {Sku: 3}},
		{{Sku: 1, Qty: 1}}, {{Sku: 1, Qty: -1}}, {{1, 1, mark.Flag(1)}}, {{1, 1, mark.Mark{Flag: 9}}},
		{{1, 1, mark.Price(0)}}, {{1, 1, mark.Price(minus0)}}, {{1, 1, mark.Price(math.NaN())}}, {{1, 1, mark.Mark{Price: 1}}},
		{{1, 1, mark.Price(math.Float64frombits(0xFFF8000000000001))}},
	}
	for i, a := range lists {
		for j, b := range lists {
			if Same(a, slices.Clone(b)) != (i == j) {
				t.Errorf("Same(%v, %v): %v", a, b, i != j)
			}
		}
	}
	if !Same(nil, []Line{}) || !Same(lists[3][:1], lists[2]) {
		t.Error("Same: what lies behind a length, or an empty list")
	}
}

// TestPast: P8.1, the join of the pasts of all that may be, of that cart and seller; whatever counts of them.
func TestPast(t *testing.T) {
	if v := Past(nil, 1, 1); v != (api.Vector{}) {
		t.Errorf("Past of nothing: %v", v)
	}
	l := []op.Event{at(1, 3, api.Vector{0, 0, 7}, added(5, 2)), at(2, 1, api.Vector{1, 0, 2}, removed(5)), at(2, 1, api.Vector{0, 0, 0, 8}, removed(6))}
	if v := Past(l, 1, 1); v != (api.Vector{3, 1, 7, 8}) {
		t.Errorf("Past: %v", v)
	}
	x := at(3, 1, api.Vector{}, added(5, 2))
	x.Label.Seller = 0
	if v := Past([]op.Event{x}, 1, 0); v != (api.Vector{}) {
		t.Errorf("Past of no seller: %v", v)
	}
	r := rand.New(rand.NewSource(84))
	for range 3000 {
		l := some(r, r.Intn(8))
		cart, seller := r.Intn(4), r.Intn(4)
		var want api.Vector
		for _, x := range l {
			if op.Right(x) && x.Label.Cart == cart && x.Label.Seller == seller {
				want = clock.Join(want, label.Past(x.Label))
			}
		}
		if v := Past(l, cart, seller); v != want {
			t.Fatalf("Past of %v, %d, %d: %v, want %v", l, cart, seller, v, want)
		}
	}
}

package index

import (
	"math"
	"math/rand"
	"slices"
	"sort"
	"testing"

	"trug/api"
	"trug/clock"
	"trug/label"
)

// full is a vector that covers all dots.
func full() (v api.Vector) {
	for i := range v {
		v[i] = math.MaxUint32
	}
	return v
}

// lab is the label of the cart 1 of the Nth event of a node.
func lab(time uint64, node int, n uint32, seller int, deps api.Vector) label.Label {
	deps[node-1] = n - 1
	return label.Label{Time: time, Node: node, N: n, Cart: 1, Seller: seller, Deps: deps}
}

// entry is the entry of the Nth event of a node.
func entry(node int, n uint32, seller int) Entry {
	return Entry{Dot: clock.Dot{Node: node, N: n}, Seller: seller}
}

// of is an index of the cart 1, to which labels were added.
func of(t *testing.T, l ...label.Label) *Index {
	t.Helper()
	x, e := New(1)
	if e != api.OK || x == nil {
		t.Fatalf("New: %v %v", x, e)
	}
	for _, y := range l {
		if _, e := x.Add(y); e != api.OK {
			t.Fatalf("Add(%v): %v", y, e)
		}
	}
	return x
}

// adds asks how many come in, and what an index has then.
func adds(t *testing.T, x *Index, l label.Label, came int, entries []Entry, waits ...label.Label) {
	t.Helper()
	n, e := x.Add(l)
	if n != came || e != api.OK {
		t.Errorf("Add(%v): %d %v, want %d", l, n, e, came)
	}
	has(t, x, entries, waits)
}

// has asks what an index has.
func has(t *testing.T, x *Index, entries []Entry, waits []label.Label) {
	t.Helper()
	var v api.Vector
	for _, y := range entries {
		v[y.Dot.Node-1]++
	}
	if x.Vector() != v || !slices.Equal(x.Entries(), entries) || !slices.Equal(x.Waits(), waits) {
		t.Errorf("%v %v %v, want %v %v %v", x.Vector(), x.Entries(), x.Waits(), v, entries, waits)
	}
}

// refuses asks for an error of Add, that changes nothing.
func refuses(t *testing.T, what string, x *Index, l label.Label, want api.Errno) {
	t.Helper()
	was := x.Save()
	if n, e := x.Add(l); n != 0 || e != want {
		t.Errorf("Add, %s: %d %v, want %v", what, n, e, want)
	}
	if !slices.Equal(x.Save(), was) {
		t.Errorf("Add, %s: something has changed", what)
	}
}

// TestNew: P10.1, of which carts there are indexes.
func TestNew(t *testing.T) {
	for cart := 1; cart <= api.MaxCarts; cart++ {
		x, e := New(cart)
		if e != api.OK || x.Cart() != cart {
			t.Fatalf("New(%d): %v %v", cart, x, e)
		}
		has(t, x, nil, nil)
		y := lab(1, 1, 1, 1, api.Vector{})
		y.Cart = cart
		adds(t, x, y, 1, []Entry{entry(1, 1, 1)})
	}
	for _, cart := range []int{0, 13, -1, math.MaxInt, math.MinInt, 1 << 32, 1<<32 + 1} {
		if x, e := New(cart); x != nil || e != api.ErrCart {
			t.Errorf("New(%d): %v %v", cart, x, e)
		}
	}
}

// TestNil: P10.1 and P1, of nil, and of one that no call made.
func TestNil(t *testing.T) {
	for _, x := range []*Index{nil, {}} {
		for _, l := range []label.Label{{}, lab(1, 1, 1, 1, api.Vector{})} {
			if n, e := x.Add(l); n != 0 || e != api.ErrNil {
				t.Errorf("Add: %d %v", n, e)
			}
		}
		if x.Cart() != 0 || x.Vector() != (api.Vector{}) || len(x.Waits()) != 0 || len(x.Entries()) != 0 {
			t.Errorf("of nil: something")
		}
		if len(x.Sellers(api.Vector{}, full())) != 0 || len(x.Dots(1, api.Vector{}, full())) != 0 || len(x.Save()) != 0 {
			t.Errorf("of nil: something")
		}
	}
}

// TestAdd: P10.1, labels come in as soon as their Deps are covered, and wait till then.
func TestAdd(t *testing.T) {
	var none api.Vector
	x := of(t)
	late := lab(2, 1, 2, 3, none)
	adds(t, x, late, 0, nil, late) // the second event of a node, ahead of the first one
	adds(t, x, lab(1, 1, 1, 2, none), 2, []Entry{entry(1, 1, 2), entry(1, 2, 3)})
	deep := lab(9, 2, 1, 12, api.Vector{2, 0, 1})
	adds(t, x, deep, 0, x.Entries(), deep)
	deeper := lab(5, 4, 1, 1, api.Vector{0, 1}) // it waits for one that waits
	adds(t, x, deeper, 0, x.Entries(), deeper, deep)
	own := lab(7, 4, 2, 5, none) // just behind its own node's
	adds(t, x, own, 0, x.Entries(), deeper, own, deep)
	adds(t, x, lab(4, 5, 1, 7, api.Vector{1}), 1, append(x.Entries(), entry(5, 1, 7)), deeper, own, deep)
	adds(t, x, lab(3, 3, 1, 4, none), 4, append(x.Entries(), entry(3, 1, 4), entry(2, 1, 12), entry(4, 1, 1), entry(4, 2, 5)))
}

// TestLessFirst: P10.1, of several that may come in the one that is Less first, again and again.
func TestLessFirst(t *testing.T) {
	var none api.Vector
	first := lab(9, 1, 1, 1, none)
	on := api.Vector{1}
	x := of(t, lab(8, 2, 1, 2, on), lab(2, 3, 1, 3, on), lab(5, 4, 1, 4, on))
	adds(t, x, first, 4, []Entry{entry(1, 1, 1), entry(3, 1, 3), entry(4, 1, 4), entry(2, 1, 2)}) // by Time
	x = of(t, lab(5, 4, 1, 2, on), lab(5, 2, 1, 3, on), lab(5, 3, 1, 4, on))
	adds(t, x, first, 4, []Entry{entry(1, 1, 1), entry(2, 1, 3), entry(3, 1, 4), entry(4, 1, 2)}) // by Node
	x = of(t, lab(5, 2, 2, 2, on), lab(5, 2, 1, 3, on), lab(5, 2, 3, 4, on))
	adds(t, x, first, 4, []Entry{entry(1, 1, 1), entry(2, 1, 3), entry(2, 2, 2), entry(2, 3, 4)}) // by N
	// one that waits for another is ahead of all that are greater, as soon as that came in
	x = of(t, lab(4, 2, 1, 2, on), lab(3, 3, 1, 3, api.Vector{1, 1}), lab(5, 4, 1, 4, on), lab(1, 5, 1, 5, api.Vector{0, 0, 1}))
	adds(t, x, first, 5, []Entry{entry(1, 1, 1), entry(2, 1, 2), entry(3, 1, 3), entry(5, 1, 5), entry(4, 1, 4)})
}

// TestAddErrors: P10.1, the errors, in their order; with one nothing has changed.
func TestAddErrors(t *testing.T) {
	var none api.Vector
	waiting := lab(4, 3, 2, 3, none)
	x := of(t, lab(1, 1, 1, 2, none), lab(2, 1, 2, 2, none), waiting)
	refuses(t, "the zero label", x, label.Label{}, api.ErrForm)
	for _, l := range []label.Label{lab(0, 4, 1, 1, none), lab(api.MaxTime+1, 4, 1, 1, none), lab(1, 4, 1, 0, none), lab(1, 4, 1, 13, none), lab(1, 4, 1, -1, none)} {
		refuses(t, "no label", x, l, api.ErrForm)
		l.Cart = 2
		refuses(t, "no label, and of another cart", x, l, api.ErrForm)
		l.Cart = 13
		refuses(t, "no label, and of no cart", x, l, api.ErrForm)
	}
	twice := lab(9, 1, 2, 5, none)
	twice.Seller = 0
	refuses(t, "a checkout's, and twice", x, twice, api.ErrForm)
	twice = lab(9, 1, 2, 5, api.Vector{0, 7})
	refuses(t, "one that came in", x, lab(2, 1, 2, 2, none), api.ErrTwice)
	refuses(t, "another one with a dot that is covered", x, twice, api.ErrTwice)
	refuses(t, "one that waits", x, waiting, api.ErrTwice)
	refuses(t, "another one with the dot of one that waits", x, lab(8, 3, 2, 9, api.Vector{0, 0, 0, 5}), api.ErrTwice)
	twice.Cart = 12
	refuses(t, "of another cart, and twice", x, twice, api.ErrCart)
	has(t, x, []Entry{entry(1, 1, 2), entry(1, 2, 2)}, []label.Label{waiting})
}

// TestFull: P10.1, at MaxLabels entries and labels that wait, of either kind, nothing more; not even what might come in, or let others in.
func TestFull(t *testing.T) {
	for _, in := range []int{0, 1, 200, api.MaxLabels - 1, api.MaxLabels} {
		x := of(t)
		for n := range in {
			if came, e := x.Add(lab(1, 1, uint32(n+1), 1, api.Vector{})); came != 1 || e != api.OK {
				t.Fatalf("Add: %d %v", came, e)
			}
		}
		for n := range api.MaxLabels - in { // the second ones on, of the node 2
			if came, e := x.Add(lab(1, 2, uint32(n+2), 2, api.Vector{})); came != 0 || e != api.OK {
				t.Fatalf("Add: %d %v", came, e)
			}
		}
		refuses(t, "one that might come in", x, lab(1, 3, 1, 1, api.Vector{}), api.ErrFull)
		refuses(t, "one that others wait for", x, lab(1, 2, 1, 1, api.Vector{}), api.ErrFull)
		refuses(t, "one that would wait", x, lab(1, 3, 2, 1, api.Vector{}), api.ErrFull)
		refuses(t, "no label", x, label.Label{}, api.ErrForm)
		other := lab(1, 3, 1, 1, api.Vector{})
		other.Cart = 2
		refuses(t, "of another cart", x, other, api.ErrCart)
		for _, y := range x.Entries()[:min(in, 3)] {
			refuses(t, "one that came in", x, lab(1, 1, y.Dot.N, 1, api.Vector{}), api.ErrTwice)
		}
		for _, l := range x.Waits()[:min(api.MaxLabels-in, 3)] {
			refuses(t, "one that waits", x, l, api.ErrTwice)
		}
		goesThere(t, x)
	}
}

// TestFullThenIn: P10.1, the last one for which there is room may let all others in.
func TestFullThenIn(t *testing.T) {
	x := of(t)
	for n := api.MaxLabels; n > 1; n-- {
		if came, e := x.Add(lab(7, 12, uint32(n), 3, api.Vector{})); came != 0 || e != api.OK {
			t.Fatalf("Add: %d %v", came, e)
		}
	}
	if came, e := x.Add(lab(7, 12, 1, 3, api.Vector{})); came != api.MaxLabels || e != api.OK || len(x.Waits()) != 0 || x.Vector()[11] != api.MaxLabels {
		t.Errorf("Add: %d %v", came, e)
	}
	refuses(t, "one more", x, lab(7, 12, api.MaxLabels+1, 3, api.Vector{}), api.ErrFull)
}

// TestBetween: P10.2, the sellers and the dots of what lies between vectors.
func TestBetween(t *testing.T) {
	var none api.Vector
	x := of(t, lab(1, 3, 1, 12, none), lab(2, 1, 1, 5, none), lab(3, 3, 2, 5, none), lab(4, 1, 2, 1, none), lab(5, 1, 3, 5, none), lab(6, 2, 2, 7, none))
	for _, c := range []struct {
		from, to api.Vector
		sellers  []int
		five     []clock.Dot
	}{
		{none, none, nil, nil},
		{none, full(), []int{1, 5, 12}, []clock.Dot{{Node: 1, N: 1}, {Node: 1, N: 3}, {Node: 3, N: 2}}},
		{none, x.Vector(), []int{1, 5, 12}, []clock.Dot{{Node: 1, N: 1}, {Node: 1, N: 3}, {Node: 3, N: 2}}},
		{none, api.Vector{2, 9, 1}, []int{1, 5, 12}, []clock.Dot{{Node: 1, N: 1}}},
		{none, api.Vector{1}, []int{5}, []clock.Dot{{Node: 1, N: 1}}},
		{api.Vector{1}, api.Vector{2}, []int{1}, nil},
		{api.Vector{0, 0, 1}, full(), []int{1, 5}, []clock.Dot{{Node: 1, N: 1}, {Node: 1, N: 3}, {Node: 3, N: 2}}},
		{api.Vector{3}, full(), []int{5, 12}, []clock.Dot{{Node: 3, N: 2}}},
		{api.Vector{2, 0, 1}, api.Vector{9, 9, 1}, []int{5}, []clock.Dot{{Node: 1, N: 3}}},
		{api.Vector{2}, api.Vector{1, 0, 1}, []int{12}, nil}, // the one does not cover the other
		{full(), full(), nil, nil},
		{full(), none, nil, nil},
	} {
		if got := x.Sellers(c.from, c.to); !slices.Equal(got, c.sellers) {
			t.Errorf("Sellers(%v, %v): %v, want %v", c.from, c.to, got, c.sellers)
		}
		if got := x.Dots(5, c.from, c.to); !slices.Equal(got, c.five) {
			t.Errorf("Dots(5, %v, %v): %v, want %v", c.from, c.to, got, c.five)
		}
	}
	for _, seller := range []int{0, 2, 7, 13, -1, math.MaxInt, math.MinInt} { // of 7 one waits
		if got := x.Dots(seller, none, full()); len(got) != 0 {
			t.Errorf("Dots(%d): %v", seller, got)
		}
	}
}

// history is labels of some nodes, each of which depends on some that were made ahead; in an order in which all come in at once.
func history(r *rand.Rand, n int) []label.Label {
	var l []label.Label
	var made api.Vector
	nodes := 1 + r.Intn(4)
	for range n {
		node := 1 + r.Intn(nodes)
		var deps api.Vector
		for i := range nodes {
			deps[i] = uint32(r.Intn(int(made[i]) + 1))
		}
		for _, y := range l { // so that what is covered is closed
			if clock.Has(deps, label.Dot(y)) && r.Intn(2) == 0 {
				deps = clock.Join(deps, y.Deps)
			}
		}
		made[node-1]++
		l = append(l, lab(1+uint64(r.Intn(6)), node, made[node-1], 1+r.Intn(12), deps))
	}
	return l
}

// model is an index, by the words of the document.
type model struct {
	entries []Entry
	waits   []label.Label
}

func (m *model) vector() (v api.Vector) {
	for _, y := range m.entries {
		v[y.Dot.Node-1] = max(v[y.Dot.Node-1], y.Dot.N)
	}
	return v
}

func (m *model) add(l label.Label) int {
	m.waits = append(m.waits, l)
	for came := 0; ; came++ {
		best := -1
		for i, y := range m.waits {
			if clock.Covers(m.vector(), y.Deps) && (best < 0 || label.Less(y, m.waits[best])) {
				best = i
			}
		}
		if best < 0 {
			sort.Slice(m.waits, func(i, j int) bool { return label.Less(m.waits[i], m.waits[j]) })
			return came
		}
		m.entries = append(m.entries, Entry{label.Dot(m.waits[best]), m.waits[best].Seller})
		m.waits = slices.Delete(m.waits, best, best+1)
	}
}

// closed asks whether the vector of an index is closed, and covers just the entries.
func closed(t *testing.T, x *Index, l []label.Label) {
	t.Helper()
	v, count := x.Vector(), 0
	for _, y := range l {
		if clock.Has(v, label.Dot(y)) {
			count++
			if !clock.Covers(v, y.Deps) || !slices.Contains(x.Entries(), Entry{label.Dot(y), y.Seller}) {
				t.Fatalf("%v is not closed: %v", v, y)
			}
		}
	}
	if count != len(x.Entries()) || clock.Count(v) != uint64(count) || count+len(x.Waits()) > len(l) {
		t.Fatalf("%v: not just the entries %v", v, x.Entries())
	}
}

// TestAny: P10.1 to P10.5, whatever comes, in whatever order, against the words of the document.
func TestAny(t *testing.T) {
	r := rand.New(rand.NewSource(10))
	waited := 0
	for range 2000 {
		l := history(r, r.Intn(14))
		r.Shuffle(len(l), func(i, j int) { l[i], l[j] = l[j], l[i] })
		l = l[:len(l)-r.Intn(len(l)/3+1)] // some never come
		x, m := of(t), &model{}
		for i, y := range l {
			adds(t, x, y, m.add(y), m.entries, m.waits...)
			closed(t, x, l[:i+1])
			refuses(t, "again", x, l[r.Intn(i+1)], api.ErrTwice)
			waited += len(m.waits)
		}
		goesThere(t, x)
		r.Shuffle(len(l), func(i, j int) { l[i], l[j] = l[j], l[i] })
		other := of(t, l...)
		if other.Vector() != x.Vector() || !slices.Equal(other.Waits(), x.Waits()) || !slices.Equal(byDot(other), byDot(x)) {
			t.Fatalf("in another order: %v, not %v", other, x)
		}
		between(t, r, x)
	}
	if waited < 5000 {
		t.Errorf("just %d waited: of little worth", waited)
	}
}

// byDot is an index's entries, by their dots.
func byDot(x *Index) []Entry {
	l := x.Entries()
	sort.Slice(l, func(i, j int) bool {
		a, b := l[i].Dot, l[j].Dot
		return a.Node < b.Node || a.Node == b.Node && a.N < b.N
	})
	return l
}

// between asks for Sellers and Dots of vectors, against the words of the document.
func between(t *testing.T, r *rand.Rand, x *Index) {
	t.Helper()
	var from, to api.Vector
	for i := range 4 {
		from[i], to[i] = uint32(r.Intn(3)), uint32(r.Intn(8))
	}
	var sellers []int
	for seller := -1; seller <= api.MaxSellers+1; seller++ {
		var want []clock.Dot
		for _, y := range byDot(x) {
			if y.Seller == seller && clock.Has(to, y.Dot) && !clock.Has(from, y.Dot) {
				want = append(want, y.Dot)
			}
		}
		if got := x.Dots(seller, from, to); !slices.Equal(got, want) {
			t.Fatalf("Dots(%d, %v, %v): %v, want %v", seller, from, to, got, want)
		}
		if len(want) > 0 {
			sellers = append(sellers, seller)
		}
	}
	if got := x.Sellers(from, to); !slices.Equal(got, sellers) {
		t.Fatalf("Sellers(%v, %v): %v, want %v", from, to, got, sellers)
	}
}

// TestOwn: what is handed out is new memory: changing it changes nothing.
func TestOwn(t *testing.T) {
	var none api.Vector
	x := of(t, lab(1, 1, 1, 2, none), lab(2, 1, 2, 3, none), lab(4, 3, 2, 3, none), lab(5, 3, 3, 3, none))
	was := x.Save()
	spoil := func() {
		w, n := x.Waits(), x.Entries()
		w[0], w[1], n[0], n[1] = w[1], label.Label{}, n[1], Entry{}
		_ = append(w[:1], label.Label{})
		x.Sellers(none, full())[0] = 9
		x.Dots(2, none, full())[0].N = 9
		b := x.Save()
		b[0], b[1] = 9, 9
	}
	spoil()
	if b := x.Save(); !slices.Equal(b, was) {
		t.Errorf("changed from outside: %x, not %x", b, was)
	}
	x, _ = Load(was)
	spoil()
	was[0], was[3] = 9, 9
	if x.Cart() != 1 || x.Entries()[0] != entry(1, 1, 2) {
		t.Errorf("changed from outside: %v", x)
	}
}

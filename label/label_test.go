package label

import (
	"bytes"
	"math"
	"math/rand"
	"slices"
	"testing"

	"trug/api"
	"trug/clock"
	"trug/wire"
)

// full is a vector that tells as much of each node as a label's Deps may.
func full() (v api.Vector) {
	for i := range v {
		v[i] = api.MaxCount
	}
	return v
}

// edges is labels that may be, at the edges of what may.
func edges() []Label {
	most := Label{Time: api.MaxTime, Node: api.MaxNodes, N: api.MaxCount, Cart: api.MaxCarts, Seller: api.MaxSellers, Deps: full()}
	most.Deps[api.MaxNodes-1] = api.MaxCount - 1
	return []Label{
		{Time: 1, Node: 2, N: 1, Cart: 1},
		{Time: 1, Node: 1, N: 1, Cart: 1, Seller: 1},
		{Time: 4, Node: 1, N: 2, Cart: 1, Deps: api.Vector{1, 1}},
		{Time: 5, Node: 1, N: 1, Cart: 1, Seller: 12, Deps: api.Vector{0, api.MaxCount}},
		{Time: 5, Node: 1, N: api.MaxCount, Cart: 12, Deps: api.Vector{api.MaxCount - 1}},
		{Time: api.MaxTime, Node: 12, N: 1, Cart: 12, Seller: 12},
		most,
	}
}

// but is a label that is changed.
func but(l Label, change func(l *Label)) Label {
	change(&l)
	return l
}

// noLabels is labels of which just one thing may not be.
func noLabels() []Label {
	ok := Label{Time: 7, Node: 3, N: 3, Cart: 5, Seller: 6, Deps: api.Vector{1, 9, 2}}
	list := []Label{{}, {Deps: full()}}
	for _, n := range []uint64{0, api.MaxTime + 1, 1 << 63, math.MaxUint64} {
		list = append(list, but(ok, func(l *Label) { l.Time = n }))
	}
	for _, n := range []int{0, 13, -1, math.MaxInt, math.MinInt, 1 << 32, 1<<32 + 3} {
		list = append(list, but(ok, func(l *Label) { l.Node = n }), but(ok, func(l *Label) { l.Cart = n }))
		if n != 0 {
			list = append(list, but(ok, func(l *Label) { l.Seller = n }))
		}
	}
	for _, n := range []uint32{0, 1, 2, 4, api.MaxCount, api.MaxCount + 1, math.MaxUint32} {
		list = append(list, but(ok, func(l *Label) { l.N = n }))
	}
	for _, n := range []uint32{api.MaxCount + 1, math.MaxUint32} {
		list = append(list, but(ok, func(l *Label) { l.Deps[0] = n }), but(ok, func(l *Label) { l.Deps[11] = n }), but(ok, func(l *Label) { l.Deps[2] = n }))
	}
	for _, n := range []uint32{0, 1, 3, 4} {
		list = append(list, but(ok, func(l *Label) { l.Deps[2] = n }))
	}
	for _, n := range []uint32{api.MaxCount + 1, math.MaxUint32} { // the Deps go with N, but there is no such dot
		list = append(list, but(ok, func(l *Label) { l.N, l.Deps[2] = n, n-1 }))
	}
	list = append(list, but(ok, func(l *Label) { l.N, l.Deps[2] = 0, math.MaxUint32 }))
	return list
}

// some is labels that may be, of few numbers, so that they often go with each other, and of many.
func some(r *rand.Rand, n int) []Label {
	list := edges()
	for range n {
		most := []int{2, 12}[r.Intn(2)]
		l := Label{Time: 1 + uint64(r.Intn(3)), Node: 1 + r.Intn(most), Cart: 1 + r.Intn(most), Seller: r.Intn(most + 1)}
		if r.Intn(4) == 0 {
			l.Time = 1 + uint64(r.Int63n(api.MaxTime))
		}
		for range r.Intn(4) {
			l.Deps[r.Intn(most)] = uint32(r.Intn([]int{3, api.MaxCount}[r.Intn(2)]))
		}
		l.N = l.Deps[l.Node-1] + 1
		list = append(list, l)
	}
	return list
}

// raw is the bytes that the document gives a label, whether it may be or not.
func raw(l Label) []byte {
	return wire.New().Num(l.Time).Num(uint64(l.Node)).Num(uint64(l.N)).Num(uint64(l.Cart)).Num(uint64(l.Seller)).Vector(l.Deps).Bytes()
}

// TestRight: P5.1, which labels may be.
func TestRight(t *testing.T) {
	for _, l := range some(rand.New(rand.NewSource(1)), 100) {
		if !Right(l) {
			t.Errorf("Right(%v): false", l)
		}
	}
	for _, l := range noLabels() {
		if Right(l) {
			t.Errorf("Right(%v): true", l)
		}
	}
}

// TestDotPast: P5.1, a label's dot, and its Deps with it.
func TestDotPast(t *testing.T) {
	l := Label{Time: 9, Node: 2, N: 4, Cart: 1, Deps: api.Vector{5, 3, 0, 1}}
	if Dot(l) != (clock.Dot{Node: 2, N: 4}) || Past(l) != (api.Vector{5, 4, 0, 1}) {
		t.Errorf("of %v: %v, %v", l, Dot(l), Past(l))
	}
	for _, l := range some(rand.New(rand.NewSource(2)), 100) {
		want := l.Deps
		want[l.Node-1] = l.N
		if Dot(l) != (clock.Dot{Node: l.Node, N: l.N}) || Past(l) != want {
			t.Errorf("of %v: %v, %v", l, Dot(l), Past(l))
		}
	}
	for _, l := range noLabels() {
		if Dot(l) != (clock.Dot{Node: l.Node, N: l.N}) || Past(l) != clock.With(l.Deps, Dot(l)) {
			t.Errorf("of %v: %v, %v", l, Dot(l), Past(l))
		}
	}
}

// TestLessKnown: P5.1, what counts first: Time, Node, Cart, N.
func TestLessKnown(t *testing.T) {
	list := []Label{
		{Time: 1, Node: 9, N: 9, Cart: 9},
		{Time: 2, Node: 1, N: 9, Cart: 9},
		{Time: 2, Node: 2, N: 9, Cart: 1},
		{Time: 2, Node: 2, N: 1, Cart: 2},
		{Time: 2, Node: 2, N: 2, Cart: 2},
		{Time: math.MaxUint64, Node: -1},
		{Time: math.MaxUint64, Node: math.MaxInt, Cart: math.MinInt, N: math.MaxUint32},
		{Time: math.MaxUint64, Node: math.MaxInt, Cart: math.MaxInt},
		{Time: math.MaxUint64, Node: math.MaxInt, Cart: math.MaxInt, N: math.MaxUint32},
	}
	for i, a := range list {
		for k, b := range list {
			if Less(a, b) != (i < k) {
				t.Errorf("Less(%v, %v): %v", a, b, Less(a, b))
			}
		}
	}
	a := Label{Time: 2, Node: 2, N: 1, Cart: 2, Seller: 1}
	b := Label{Time: 2, Node: 2, N: 1, Cart: 2, Seller: 2, Deps: api.Vector{7}}
	if Less(a, b) || Less(b, a) {
		t.Errorf("Seller and Deps play a part")
	}
}

// place is what counts of a label in the order.
type place struct {
	time uint64
	node int
	cart int
	n    uint32
}

func placeOf(l Label) place { return place{l.Time, l.Node, l.Cart, l.N} }

// TestLessTotal: P5.3, of two that are not equal in those four just one is Less, and the order goes on.
func TestLessTotal(t *testing.T) {
	list := some(rand.New(rand.NewSource(3)), 50)
	for _, a := range list {
		for _, b := range list {
			less, more := Less(a, b), Less(b, a)
			if less && more || (less || more) != (placeOf(a) != placeOf(b)) {
				t.Fatalf("of %v and %v: %v, %v", a, b, less, more)
			}
			for _, c := range list {
				if less && Less(b, c) && !Less(a, c) {
					t.Fatalf("the order does not go on: %v, %v, %v", a, b, c)
				}
			}
		}
	}
}

// TestLessBehind: P5.3, a label whose Time is greater than those of its Deps' events comes behind them.
func TestLessBehind(t *testing.T) {
	r := rand.New(rand.NewSource(4))
	var made []Label
	var known api.Vector
	for i := range 60 {
		node := 1 + r.Intn(api.MaxNodes)
		l := Label{Time: 1 + 2*uint64(i), Node: node, N: known[node-1] + 1, Cart: 1, Deps: known}
		made, known = append(made, l), Past(l)
	}
	for _, l := range made {
		for _, d := range made {
			if !Right(l) || clock.Has(l.Deps, Dot(d)) && (!Before(d, l) || !Less(d, l) || Less(l, d)) {
				t.Fatalf("%v is not behind %v", l, d)
			}
		}
	}
}

// TestBefore: P5.1, of one cart, and covered.
func TestBefore(t *testing.T) {
	a := Label{Time: 5, Node: 2, N: 3, Cart: 4, Deps: api.Vector{0, 2}}
	b := Label{Time: 1, Node: 1, N: 1, Cart: 4, Deps: api.Vector{0, 3}}
	for _, x := range []struct {
		what string
		b    Label
		want bool
	}{
		{"covered", b, true},
		{"more than covered", but(b, func(l *Label) { l.Deps[1] = 4 }), true},
		{"less than covered", but(b, func(l *Label) { l.Deps[1] = 2 }), false},
		{"covered of another node", but(b, func(l *Label) { l.Deps = api.Vector{9, 0, 9} }), false},
		{"of another cart", but(b, func(l *Label) { l.Cart = 5 }), false},
		{"its own", a, false},
		{"its next one", but(a, func(l *Label) { l.N, l.Deps[1] = 4, 3 }), true},
	} {
		if got := Before(a, x.b); got != x.want {
			t.Errorf("Before, %s: %v", x.what, got)
		}
	}
	if Before(b, a) {
		t.Errorf("Before, the other way round: true")
	}
	for _, l := range []Label{{Cart: 4}, {Cart: 4, Node: 13, N: 1}, {Cart: 4, Node: 1}, {Cart: 4, Node: 1, N: api.MaxCount + 1}} {
		if Before(l, but(b, func(l *Label) { l.Deps = api.Vector{math.MaxUint32} })) {
			t.Errorf("Before of %v, whose dot may not be: true", l)
		}
	}
}

// TestPut: P5.1, bytes that are known, behind the others.
func TestPut(t *testing.T) {
	w := wire.New().Num(300)
	Put(w, Label{Time: 300, Node: 2, N: 1, Cart: 1, Seller: 4, Deps: api.Vector{5, 0, 200}})
	Put(w, Label{Time: 1, Node: 12, N: 1, Cart: 12})
	if got := string(w.Bytes()); got != "\x82\x2c\x82\x2c\x02\x01\x01\x04\x03\x05\x00\x81\x48\x01\x0c\x01\x0c\x00\x00" {
		t.Errorf("Put: %x", got)
	}
}

// TestWrite: P5.1, bytes of labels that may be, and of these alone.
func TestWrite(t *testing.T) {
	for _, l := range some(rand.New(rand.NewSource(5)), 100) {
		if b, e := Write(l); e != api.OK || !bytes.Equal(b, raw(l)) {
			t.Errorf("Write(%v): %x %v", l, b, e)
		}
	}
	for _, l := range noLabels() {
		if b, e := Write(l); e != api.ErrForm || len(b) != 0 {
			t.Errorf("Write(%v): %x %v", l, b, e)
		}
	}
}

// TestRead: P5.2 and P2, there and back; cut anywhere, or longer, it is nothing.
func TestRead(t *testing.T) {
	for _, l := range some(rand.New(rand.NewSource(6)), 100) {
		b, _ := Write(l)
		old := slices.Clone(b)
		if got, e := Read(b); e != api.OK || got != l {
			t.Errorf("Read(%x): %v %v", b, got, e)
		}
		for n := range b {
			wantNone(t, "cut", b[:n])
		}
		wantNone(t, "longer", append(b[:len(b):len(b)], 0))
		wantNone(t, "twice", append(b[:len(b):len(b)], b...))
		if !bytes.Equal(b, old) {
			t.Errorf("the bytes are changed: %x", b)
		}
	}
	wantNone(t, "nil", nil)
	for _, l := range noLabels() {
		wantNone(t, "of no label", raw(l))
	}
}

// wantNone: bytes are no label's.
func wantNone(t *testing.T, what string, b []byte) {
	t.Helper()
	if l, e := Read(b); e != api.ErrForm || l != (Label{}) {
		t.Errorf("Read, %s: %x: %v %v", what, b, l, e)
	}
}

// TestReadWide: P5.1, numbers that would be others, cut to the width of their fields.
func TestReadWide(t *testing.T) {
	for i := range 5 {
		for _, more := range []uint64{1 << 32, 1 << 63} {
			if i == 0 && more < api.MaxTime {
				continue // a Time that may be
			}
			n := []uint64{1, 1, 1, 1, 1}
			n[i] += more
			w := wire.New()
			for _, x := range n {
				w.Num(x)
			}
			wantNone(t, "wide", w.Vector(api.Vector{}).Bytes())
		}
	}
	wantNone(t, "a digit of nought ahead", []byte("\x80\x01\x01\x01\x01\x01\x00"))
	wantNone(t, "a nought behind", []byte("\x01\x01\x01\x01\x01\x01\x00"))
	if l, e := Read([]byte("\x01\x01\x01\x01\x01\x00")); e != api.OK || !Right(l) {
		t.Errorf("Read: %v %v", l, e)
	}
}

// TestOneWay: P5.2 and P2, whatever is read, written again, is the same bytes.
func TestOneWay(t *testing.T) {
	r := rand.New(rand.NewSource(7))
	read := 0
	for range 200000 {
		b := make([]byte, 6+r.Intn(4))
		for i := range b {
			b[i] = []byte{0, 0, 1, 1, 1, 2, 12, 13, 128, 129}[r.Intn(10)]
		}
		l, e := Read(b)
		if e != api.OK {
			continue
		}
		read++
		if again, e := Write(l); e != api.OK || !bytes.Equal(again, b) {
			t.Fatalf("%x, written again: %x %v", b, again, e)
		}
	}
	if read < 300 {
		t.Errorf("just %d are read", read)
	}
}

// TestGet: P5.1, the label that stands here, and what is behind it; the faults.
func TestGet(t *testing.T) {
	l := edges()[2]
	b := append(wire.New().Num(300).Bytes(), append(raw(l), 7)...)
	e := wire.Read(b, func(r *wire.Reader) {
		if r.Num() != 300 || Get(r) != l || r.Num() != 7 {
			t.Errorf("Get: another one")
		}
	})
	if e != api.OK {
		t.Errorf("Get: %v", e)
	}
	for n := range raw(l) {
		wantFault(t, raw(l)[:n], api.ErrShort)
	}
	for _, l := range noLabels() {
		wantFault(t, raw(l), api.ErrForm)
	}
	wantFault(t, append(raw(l), 0), api.ErrLong)
	for _, b := range []string{"\x81\xa0\x80\x80\x80\x80\x01", "\x01\x0d", "\x01\x01\xc0\x80\x01", "\x01\x01\x01\x0d", "\x01\x01\x01\x01\x0d"} {
		wantFault(t, []byte(b), api.ErrForm) // a number above its limit is met ahead of what is missing
	}
	wantFault(t, []byte("\x00\x00\x00\x00\x00"), api.ErrShort) // a nought is asked for when all is read
}

// wantFault: what Read of wire tells of a label, and behind a fault nothing comes back.
func wantFault(t *testing.T, b []byte, want api.Errno) {
	t.Helper()
	back := false
	if e := wire.Read(b, func(r *wire.Reader) { Get(r); back = true }); e != want || back != (want == api.ErrLong) {
		t.Errorf("Get of %x: %v, not %v; back: %v", b, e, want, back)
	}
}

// TestNil: P1, writers and readers that are nil, or that no call made.
func TestNil(t *testing.T) {
	var kept *wire.Reader
	wire.Read(raw(edges()[0]), func(r *wire.Reader) { kept = r; Get(r) })
	for _, r := range []*wire.Reader{nil, {}, kept} {
		if Get(r) != (Label{}) {
			t.Errorf("Get of nothing: something")
		}
	}
	for _, l := range append(noLabels(), edges()...) {
		Put(nil, l)
		w := &wire.Writer{}
		Put(w, l)
		if !bytes.Equal(w.Bytes(), raw(l)) {
			t.Errorf("Put(%v): %x", l, w.Bytes())
		}
	}
}

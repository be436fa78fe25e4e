package value

import (
	"math"
	"math/rand"
	"slices"
	"testing"

	"trug/api"
	"trug/lines"
	"trug/mark"
)

var minus0 = math.Copysign(0, -1)

// prices are floats of all kinds.
func prices() []float64 {
	return []float64{
		0, minus0, 1, -1.5, 1e300, 5e-324, math.MaxFloat64, math.Inf(1), math.Inf(-1), math.NaN(),
		math.Float64frombits(0x7FF0000000000001), math.Float64frombits(0xFFF8000000000001), math.Float64frombits(0xFFFFFFFFFFFFFFFF),
	}
}

func row(seller, sku, qty int, m mark.Mark) Row {
	return Row{Seller: seller, Line: lines.Line{Sku: sku, Qty: qty, Mark: m}}
}

// one is a row of one piece, without a mark.
func one(seller, sku int) Row { return row(seller, sku, 1, mark.Mark{}) }

// whole is the value with a row of each Seller and Sku.
func whole() Value {
	var v Value
	for seller := 1; seller <= api.MaxSellers; seller++ {
		for sku := 1; sku <= api.MaxSku; sku++ {
			v = append(v, one(seller, sku))
		}
	}
	return v
}

// some is a value of some rows, of a few sellers and skus, or of all.
func some(r *rand.Rand) Value {
	l := prices()
	sellers, skus := api.MaxSellers, api.MaxSku
	if r.Intn(2) == 0 {
		sellers, skus = 3, 4
	}
	share := 1 + r.Intn(8)
	var v Value
	for seller := 1; seller <= sellers; seller++ {
		for sku := 1; sku <= skus; sku++ {
			if r.Intn(share) > 0 {
				continue
			}
			m := mark.Flag(r.Intn(4))
			if r.Intn(2) == 0 {
				m = mark.Join(m, mark.Price(l[r.Intn(len(l))]))
			}
			v = append(v, row(seller, sku, r.Intn([]int{2, 300, 1<<30 + 1}[r.Intn(3)]), m))
		}
	}
	return v
}

// edges is values that may be, at the edges of what may.
func edges() []Value {
	list := []Value{
		nil, {}, {one(1, 1)}, {one(12, 40)}, {one(1, 1), one(1, 2)}, {one(1, 40), one(2, 1)}, {one(1, 2), one(2, 1), one(3, 40)},
		{row(1, 1, 0, mark.Mark{})}, {row(1, 1, 1<<30, mark.Mark{})}, {row(1, 1, 1, mark.Flag(3))}, whole(),
	}
	for _, f := range prices() {
		list = append(list, Value{row(4, 5, 6, mark.Price(f))}, Value{row(4, 5, 6, mark.Join(mark.Flag(2), mark.Price(f)))})
	}
	return list
}

// noRows is rows of which just one thing may not be.
func noRows() []Row {
	l := []Row{one(0, 1), one(13, 1), one(1, 0), one(1, 41), row(1, 1, 1<<30+1, mark.Mark{}), row(1, 1, 1, mark.Mark{Flag: 4})}
	l = append(l, row(1, 1, 1, mark.Mark{Price: 1}), row(1, 1, 1, mark.Mark{Price: minus0}), row(1, 1, 1, mark.Mark{Flag: 4, Has: true}))
	for _, n := range []int{-1, math.MinInt, math.MaxInt, 1 << 32, 1<<32 + 1} {
		l = append(l, one(n, 1), one(1, n), row(1, 1, n, mark.Mark{}), row(1, 1, 1, mark.Mark{Flag: n}))
	}
	return l
}

// noValues is values that may not be.
func noValues() []Value {
	list := []Value{
		{one(1, 1), one(1, 1)}, {one(1, 2), one(1, 1)}, {one(2, 1), one(1, 1)}, {one(2, 1), one(1, 2)}, {one(2, 1), one(1, 1), one(3, 1)},
		{one(1, 1), row(1, 1, 2, mark.Flag(1))}, {one(1, 1), one(1, 2), one(1, 2)}, {one(1, 1), one(1, 2), one(2, 1), one(1, 3)},
		append(whole(), one(12, 40)), append(whole(), one(12, 41)), append(Value{one(1, 1)}, whole()...), slices.Repeat(whole(), 2),
	}
	for _, r := range noRows() {
		list = append(list, Value{r}, Value{r, one(12, 40)}, Value{one(1, 1), one(1, 2), r})
	}
	return list
}

// TestRight: P9.1, which values may be.
func TestRight(t *testing.T) {
	for _, v := range edges() {
		if !Right(v) {
			t.Errorf("Right(%v): false", v)
		}
	}
	for _, v := range noValues() {
		if Right(v) {
			t.Errorf("Right(%v): true", v)
		}
	}
	r := rand.New(rand.NewSource(1))
	for range 500 {
		if v := some(r); !Right(v) {
			t.Fatalf("Right(%v): false", v)
		}
	}
	if v := append(whole(), one(12, 41)); !Right(v[:480]) || Right(v[:481]) {
		t.Errorf("Right: what lies behind a length, or the 481st row")
	}
}

// TestSame: P9.1, the same rows, in order, Prices by their bits; also of values that may not be.
func TestSame(t *testing.T) {
	lists := []Value{
		nil, {{}}, {one(1, 1)}, {one(2, 1)}, {one(1, 2)}, {row(1, 1, 2, mark.Mark{})}, {row(1, 1, 1, mark.Flag(1))}, {row(1, 1, -1, mark.Mark{})},
		{one(1, 1), one(1, 2)}, {one(1, 2), one(1, 1)}, {one(1, 1), one(2, 1)}, {one(1, 1), one(1, 2), one(1, 3)}, {one(13, 1)},
		{row(1, 1, 1, mark.Mark{Price: 1})}, {row(1, 1, 1, mark.Mark{Price: minus0})},
	}
	for _, f := range prices() {
		lists = append(lists, Value{row(1, 1, 1, mark.Price(f))})
	}
	for i, a := range lists {
		for j, b := range lists {
			if Same(a, slices.Clone(b)) != (i == j) {
				t.Errorf("Same(%v, %v): %v", a, b, i != j)
			}
		}
	}
	if !Same(nil, Value{}) || !Same(lists[8][:1], lists[2]) {
		t.Error("Same: an empty list, or what lies behind a length")
	}
}

// TestOfSeller: P9.1, lines as rows, in order, and the lines of a seller's rows, in order; whatever they are.
func TestOfSeller(t *testing.T) {
	l := []lines.Line{{Sku: 7, Qty: 2}, {Sku: 3, Qty: -1, Mark: mark.Mark{Flag: 9}}, {Sku: 3, Mark: mark.Price(minus0)}, {Sku: 99}}
	was := slices.Clone(l)
	want := Value{{2, l[0]}, {2, l[1]}, {2, l[2]}, {2, l[3]}}
	if v := Of(2, l); !Same(v, want) {
		t.Errorf("Of: %v", v)
	}
	for _, seller := range []int{-1, 0, 13, math.MaxInt, math.MinInt} {
		v := Of(seller, l)
		if len(v) != 4 || v[0].Seller != seller || v[3].Seller != seller || !lines.Same(Seller(v, seller), l) {
			t.Errorf("Of %d: %v", seller, v)
		}
	}
	mixed := Value{{3, l[0]}, {2, l[1]}, {3, l[2]}, {0, l[3]}, {2, l[0]}}
	for seller, want := range [][]lines.Line{{l[3]}, nil, {l[1], l[0]}, {l[0], l[2]}, nil} {
		if got := Seller(mixed, seller); !lines.Same(got, want) {
			t.Errorf("Seller %d: %v, want %v", seller, got, want)
		}
	}
	if len(Of(1, nil)) != 0 || len(Of(1, []lines.Line{})) != 0 || len(Seller(nil, 1)) != 0 || len(Seller(mixed, -1)) != 0 {
		t.Errorf("Of, Seller: something of nothing")
	}
	Of(2, l)[0].Line.Sku = 9
	Seller(mixed, 2)[0].Sku = 9
	if !lines.Same(l, was) || mixed[1].Line.Sku != 3 {
		t.Errorf("what was handed in is changed: %v", l)
	}
}

// joins asks for a join.
func joins(t *testing.T, what string, l []Value, want Value, wantErr api.Errno) {
	t.Helper()
	got, e := Join(l...)
	if e != wantErr || !Same(got, want) || e != api.OK && len(got) != 0 {
		t.Errorf("Join, %s: %v %v, want %v %v", what, got, e, want, wantErr)
	}
}

// TestJoin: P9.1, all rows in order; ErrForm ahead of ErrTwice.
func TestJoin(t *testing.T) {
	a, b, c := Value{one(2, 5), one(3, 1)}, Value{one(1, 40), one(2, 4)}, Value{one(2, 6), one(12, 1)}
	joins(t, "of none", nil, nil, api.OK)
	joins(t, "of nothing", []Value{nil, {}, nil}, nil, api.OK)
	joins(t, "of one", []Value{a}, a, api.OK)
	joins(t, "of one and nothing", []Value{nil, a, {}}, a, api.OK)
	joins(t, "of three", []Value{a, b, c}, Value{one(1, 40), one(2, 4), one(2, 5), one(2, 6), one(3, 1), one(12, 1)}, api.OK)
	joins(t, "of one twice", []Value{a, b, a}, nil, api.ErrTwice)
	joins(t, "of one row twice", []Value{a, {one(3, 1)}}, nil, api.ErrTwice)
	joins(t, "of unlike rows of one place", []Value{{row(3, 1, 7, mark.Price(2))}, b, a}, nil, api.ErrTwice)
	joins(t, "of one more than all", []Value{whole(), {one(5, 5)}}, nil, api.ErrTwice)
	joins(t, "of all, often", slices.Repeat([]Value{whole()}, 1000), nil, api.ErrTwice)
	joins(t, "of all, and nothing", []Value{nil, whole(), nil}, whole(), api.OK)
	for _, bad := range noValues() {
		joins(t, "of one that may not be", []Value{bad}, nil, api.ErrForm)
		joins(t, "of some that may not be", []Value{b, bad, c}, nil, api.ErrForm)
		joins(t, "of one that may not be, behind two of one place", []Value{a, a, bad}, nil, api.ErrForm)
		joins(t, "of one that may not be, behind too many", []Value{whole(), whole(), bad}, nil, api.ErrForm)
	}
}

// TestJoinAny: P9.1 and P9.4, a value is the join of what it has of each seller, and of any of its parts, in any order; nothing is changed.
func TestJoinAny(t *testing.T) {
	r := rand.New(rand.NewSource(2))
	for range 500 {
		v := some(r)
		var sellers, parts []Value
		for seller := 1; seller <= api.MaxSellers; seller++ {
			sellers = append(sellers, Of(seller, Seller(v, seller)))
		}
		parts = make([]Value, 1+r.Intn(5))
		for _, x := range v {
			i := r.Intn(len(parts))
			parts[i] = append(parts[i], x)
		}
		r.Shuffle(len(sellers), func(i, j int) { sellers[i], sellers[j] = sellers[j], sellers[i] })
		joins(t, "of sellers", sellers, v, api.OK)
		was := make([]Value, len(parts))
		for i := range parts {
			was[i] = slices.Clone(parts[i])
		}
		joins(t, "of parts", parts, v, api.OK)
		if !slices.EqualFunc(parts, was, Same) {
			t.Fatalf("Join changed %v to %v", was, parts)
		}
	}
}

// TestJoinNew: P9.1, what is handed out is new memory, also of one value alone.
func TestJoinNew(t *testing.T) {
	back := Value{one(1, 1), one(3, 3), one(4, 4)}
	v, _ := Join(back[:1])
	v[0].Line.Qty = 99
	v, _ = Join(back[:1], Value{one(2, 2)})
	v[0].Line.Qty = 99
	if !Same(back, Value{one(1, 1), one(3, 3), one(4, 4)}) {
		t.Errorf("Join: what was handed in is changed: %v", back)
	}
}

// TestSum: P9.1, the total of all rows, in order.
func TestSum(t *testing.T) {
	for _, c := range []struct {
		v    Value
		want mark.Total
	}{
		{nil, mark.Total{}},
		{Value{row(1, 1, 2, mark.Price(1.5)), one(2, 1)}, mark.Total{Lines: 2, Pieces: 3, Free: 1, Sum: 3}},
		{Value{row(1, 1, 0, mark.Price(1.5)), row(2, 1, -1, mark.Price(1)), row(2, 2, 1, mark.Mark{Flag: 4})}, mark.Total{}},
		{Value{row(1, 1, 1<<30, mark.Price(2)), row(2, 1, 1, mark.Flag(3))}, mark.Total{Lines: 2, Pieces: 100001, Free: 1, Sum: 200000}},
		{Value{row(1, 1, 1, mark.Price(1e300)), row(1, 2, 1, mark.Price(-1e300)), row(2, 1, 1, mark.Price(1))}, mark.Total{Lines: 3, Pieces: 3, Sum: 1}},
		{Value{row(1, 1, 1, mark.Price(1e300)), row(1, 2, 1, mark.Price(1)), row(2, 1, 1, mark.Price(-1e300))}, mark.Total{Lines: 3, Pieces: 3}},
		{Value{row(2, 1, 1, mark.Price(-1)), row(2, 1, 3, mark.Price(1)), row(0, 99, 1, mark.Mark{})}, mark.Total{Lines: 3, Pieces: 5, Free: 1, Sum: 2}},
		{whole(), mark.Total{Lines: 480, Pieces: 480, Free: 480}},
	} {
		if got := Sum(c.v); !mark.SameTotal(got, c.want) {
			t.Errorf("Sum(%v): %v, want %v", c.v, got, c.want)
		}
	}
}

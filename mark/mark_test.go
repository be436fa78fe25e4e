package mark

import (
	"math"
	"math/rand"
	"slices"
	"testing"

	"trug/api"
	"trug/total"
)

var minus0 = math.Copysign(0, -1)

// prices are floats of all kinds.
func prices() []float64 {
	return []float64{
		0, minus0, 1, -1, 1.5, 2, 1e300, -1e300, 5e-324, -5e-324, math.MaxFloat64, math.Inf(1), math.Inf(-1),
		math.NaN(), math.Float64frombits(0x7FF0000000000001), math.Float64frombits(0xFFF8000000000001), math.Float64frombits(0xFFFFFFFFFFFFFFFF),
	}
}

// marks are marks that may be.
func marks() []Mark {
	var l []Mark
	for n := 0; n <= api.MaxFlag; n++ {
		l = append(l, Mark{Flag: n})
		for _, f := range prices() {
			l = append(l, Mark{Flag: n, Has: true, Price: f})
		}
	}
	return l
}

// noMarks are marks that may not be.
func noMarks() []Mark {
	return []Mark{
		{Flag: -1}, {Flag: 4}, {Flag: math.MaxInt}, {Flag: math.MinInt},
		{Flag: -1, Has: true, Price: 2}, {Flag: 4, Has: true, Price: 2},
		{Price: 1}, {Price: minus0}, {Flag: 2, Price: -1}, {Price: math.NaN()}, {Price: 5e-324},
	}
}

// TestRight: P7.1, which marks may be.
func TestRight(t *testing.T) {
	for _, m := range marks() {
		if !Right(m) {
			t.Errorf("Right(%v): false", m)
		}
	}
	for _, m := range noMarks() {
		if Right(m) {
			t.Errorf("Right(%v): true", m)
		}
	}
}

// TestSame: P7.1, equal by all parts, and by the bits of Price; also marks that may not be.
func TestSame(t *testing.T) {
	all := append(marks(), noMarks()...)
	for i, a := range all {
		for j, b := range all {
			if Same(a, b) != (i == j) {
				t.Errorf("Same(%v, %v): %v", a, b, Same(a, b))
			}
		}
	}
}

// TestOne: P7.1, marks of one flag, or of one price.
func TestOne(t *testing.T) {
	for n := 0; n <= api.MaxFlag; n++ {
		if m := Flag(n); !Same(m, Mark{Flag: n}) {
			t.Errorf("Flag(%d): %v", n, m)
		}
	}
	for _, n := range []int{-1, 4, 5, 256, math.MaxInt, math.MinInt} {
		if m := Flag(n); !Same(m, Mark{}) {
			t.Errorf("Flag(%d): %v", n, m)
		}
	}
	for _, f := range prices() {
		if m := Price(f); !Same(m, Mark{Has: true, Price: f}) {
			t.Errorf("Price(%v): %v", f, m)
		}
	}
}

// TestJoinKnown: P7.1, joins that are known.
func TestJoinKnown(t *testing.T) {
	for _, c := range []struct {
		l    []Mark
		want Mark
	}{
		{nil, Mark{}},
		{[]Mark{{}}, Mark{}},
		{[]Mark{Flag(1), Flag(3), Price(minus0), Price(0)}, Mark{3, true, 0}},
		{[]Mark{Price(0), Price(minus0)}, Mark{0, true, 0}},
		{[]Mark{Price(minus0), Flag(2)}, Mark{2, true, minus0}}, // no price is not a price of +0
		{[]Mark{Flag(2), Price(-7)}, Mark{2, true, -7}},
		{[]Mark{Price(-7), {}}, Mark{0, true, -7}},
		{[]Mark{Price(-7), Price(-8)}, Mark{0, true, -7}},
		{[]Mark{Price(math.NaN()), Price(math.Inf(1))}, Mark{0, true, math.NaN()}},
		{[]Mark{Price(math.Inf(-1)), Price(math.Float64frombits(0xFFF8000000000001))}, Mark{0, true, math.Inf(-1)}},
		{[]Mark{{1, true, 2}, {3, true, 1}}, Mark{3, true, 2}},
		{[]Mark{{Flag: 4}, {Price: 9}, {-1, true, 9}, Flag(1), {4, true, 9}}, Mark{Flag: 1}}, // these may not be
		{noMarks(), Mark{}},
	} {
		if m := Join(c.l...); !Same(m, c.want) {
			t.Errorf("Join%v: %v, want %v", c.l, m, c.want)
		}
	}
}

// TestLattice: P7.3, the join does not hang on the order, or on how often one comes; it is the least that covers both.
func TestLattice(t *testing.T) {
	all := marks()
	for _, a := range all {
		for _, b := range all {
			j := Join(a, b)
			if !Right(j) || !Same(j, Join(b, a)) || !Same(j, Join(a, b, a)) || !Same(j, Join(j, a)) || !Covers(j, a) || !Covers(j, b) {
				t.Fatalf("Join(%v, %v): %v", a, b, j)
			}
			if j.Flag != max(a.Flag, b.Flag) || j.Has != (a.Has || b.Has) || a.Has && b.Has && !total.Same(j.Price, total.Join(a.Price, b.Price)) {
				t.Fatalf("Join(%v, %v): %v", a, b, j)
			}
		}
	}
	r := rand.New(rand.NewSource(7))
	for range 2000 {
		var l []Mark
		for range r.Intn(6) {
			l = append(l, all[r.Intn(len(all))])
		}
		want := Join(l...)
		for i := range l { // what may not be plays no part, wherever it stands
			l = append(l, l[i], noMarks()[r.Intn(len(noMarks()))])
		}
		r.Shuffle(len(l), func(i, j int) { l[i], l[j] = l[j], l[i] })
		k := r.Intn(len(l) + 1)
		if m := Join(l...); !Same(m, want) || !Same(Join(Join(l[:k]...), Join(l[k:]...)), want) {
			t.Fatalf("Join%v: %v, want %v", l, m, want)
		}
	}
}

// TestCovers: P7.1, both may be, and the join is the first one.
func TestCovers(t *testing.T) {
	all := append(marks(), noMarks()...)
	for _, a := range all {
		for _, b := range all {
			price := !b.Has || a.Has && !total.Less(a.Price, b.Price)
			want := Right(a) && Right(b) && a.Flag >= b.Flag && price
			if Covers(a, b) != want {
				t.Errorf("Covers(%v, %v): %v", a, b, !want)
			}
		}
	}
}

// TestSumKnown: P7.2, totals that are known.
func TestSumKnown(t *testing.T) {
	nan := math.Float64frombits(0x7FF8000000000001)
	for _, c := range []struct {
		qty  []int
		l    []Mark
		want Total
	}{
		{nil, nil, Total{}},
		{[]int{1}, nil, Total{}},
		{nil, []Mark{Price(1)}, Total{}},
		{[]int{2, 1}, []Mark{Price(1.5), Flag(2)}, Total{2, 3, 1, 3}},
		{[]int{2, 1, 7}, []Mark{Price(1.5), Flag(2)}, Total{2, 3, 1, 3}}, // as many rows as the shorter list
		{[]int{2}, []Mark{Price(1.5), Flag(2)}, Total{1, 2, 0, 3}},
		{[]int{0, -1, math.MinInt, 3}, []Mark{Price(1), Price(1), Price(1), Price(-1)}, Total{1, 3, 0, -3}},
		{[]int{2, 2, 2}, []Mark{{Flag: 4}, {Price: 1}, {-1, true, 1}}, Total{}}, // marks that may not be
		{[]int{99999, 100000, 100001, math.MaxInt}, []Mark{{}, {}, {}, {}}, Total{4, 399999, 4, 0}},
		{[]int{math.MaxInt}, []Mark{Price(2)}, Total{1, 100000, 0, 200000}},
		{[]int{3}, []Mark{Price(minus0)}, Total{1, 3, 0, 0}}, // +0 and -0 are +0
		{[]int{3}, []Mark{Price(-5e-324)}, Total{1, 3, 0, -15e-324}},
		{[]int{1, 1, 1}, []Mark{Price(1e300), Price(1), Price(-1e300)}, Total{3, 3, 0, 0}}, // in order, each rounded
		{[]int{1, 1, 1}, []Mark{Price(1e300), Price(-1e300), Price(1)}, Total{3, 3, 0, 1}},
		{[]int{10, 1}, []Mark{Price(0.1), Price(-1)}, Total{2, 11, 0, 0}}, // the product is rounded ahead of the sum
		{[]int{2}, []Mark{Price(math.MaxFloat64)}, Total{1, 2, 0, math.Inf(1)}},
		{[]int{1, 1}, []Mark{Price(math.Inf(1)), Price(math.Inf(-1))}, Total{2, 2, 0, nan}},
		{[]int{1, 1}, []Mark{Price(math.Float64frombits(0xFFFFFFFFFFFFFFFF)), {}}, Total{2, 2, 1, nan}},
	} {
		if s := Sum(c.qty, c.l); !SameTotal(s, c.want) {
			t.Errorf("Sum(%v, %v): %v, want %v", c.qty, c.l, s, c.want)
		}
	}
}

// TestSum: P7.2, totals of rows of all kinds, against the words of the document; what is handed in stays as it was.
func TestSum(t *testing.T) {
	r := rand.New(rand.NewSource(72))
	all := append(marks(), noMarks()...)
	for range 3000 {
		var qty []int
		var l []Mark
		for range r.Intn(6) {
			qty = append(qty, r.Intn(8)-2)
		}
		for range r.Intn(6) {
			l = append(l, all[r.Intn(len(all))])
		}
		var want Total
		for i := 0; i < len(qty) && i < len(l); i++ {
			if qty[i] < 1 || !Right(l[i]) {
				continue
			}
			want.Lines++
			want.Pieces += qty[i]
			if l[i].Has {
				cost := float64(qty[i]) * l[i].Price
				want.Sum += cost
			} else {
				want.Free++
			}
		}
		want.Sum = total.Sum([]float64{want.Sum})
		wasQty, was := slices.Clone(qty), slices.Clone(l)
		if s := Sum(qty, l); !SameTotal(s, want) {
			t.Fatalf("Sum(%v, %v): %v, want %v", qty, l, s, want)
		}
		if !slices.Equal(qty, wasQty) || !slices.EqualFunc(l, was, Same) {
			t.Fatalf("Sum changed %v %v to %v %v", wasQty, was, qty, l)
		}
	}
}

// TestSameTotal: P7.2, equal by all parts, and by the bits of Sum.
func TestSameTotal(t *testing.T) {
	all := []Total{{}, {1, 0, 0, 0}, {0, 1, 0, 0}, {0, 0, 1, 0}, {-1, 0, 0, 0}, {1, 1, 1, 1}}
	for _, f := range prices()[1:] {
		all = append(all, Total{Sum: f})
	}
	for i, a := range all {
		for j, b := range all {
			if SameTotal(a, b) != (i == j) {
				t.Errorf("SameTotal(%v, %v): %v", a, b, i != j)
			}
		}
	}
}

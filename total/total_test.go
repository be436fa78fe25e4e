package total

import (
	"math"
	"math/rand"
	"slices"
	"testing"
)

const (
	quiet     = 0x7FF8000000000001
	signBit   = 1 << 63
	infBits   = 0x7FF0000000000000
	leastBits = 1
)

// rising is the bits of numbers, in the order that the document names, and their kinds.
var rising = []struct {
	bits uint64
	kind int
}{
	{0xFFFFFFFFFFFFFFFF, 0}, // NaN with the sign
	{0xFFF8000000000001, 0},
	{0xFFF8000000000000, 0},
	{0xFFF7FFFFFFFFFFFF, 0},
	{0xFFF0000000000001, 0},
	{signBit | infBits, 1},
	{0xFFEFFFFFFFFFFFFF, 3}, // the numbers below nought
	{0xC000000000000000, 3},
	{0xBFF0000000000001, 3},
	{0xBFF0000000000000, 3},
	{0x8010000000000000, 3},
	{0x800FFFFFFFFFFFFF, 3},
	{0x8000000000000002, 3},
	{signBit | leastBits, 3},
	{signBit, 2},
	{0, 2},
	{leastBits, 3}, // those above it
	{0x0000000000000002, 3},
	{0x000FFFFFFFFFFFFF, 3},
	{0x0010000000000000, 3},
	{0x3FF0000000000000, 3},
	{0x3FF0000000000001, 3},
	{0x4000000000000000, 3},
	{0x7FEFFFFFFFFFFFFF, 3},
	{infBits, 1},
	{0x7FF0000000000001, 0}, // NaN without it
	{0x7FF7FFFFFFFFFFFF, 0},
	{0x7FF8000000000000, 0},
	{quiet, 0},
	{0x7FFFFFFFFFFFFFFF, 0},
}

func number(bits uint64) float64 { return math.Float64frombits(bits) }

// someNumbers is the numbers of rising, and others of any bits.
func someNumbers(n int) []float64 {
	var l []float64
	for _, x := range rising {
		l = append(l, number(x.bits))
	}
	r := rand.New(rand.NewSource(3))
	for range n {
		l = append(l, number(r.Uint64()), float64(r.Intn(2000)-1000), r.NormFloat64())
	}
	return l
}

// TestKeyKnown: P2.1, keys at the edges.
func TestKeyKnown(t *testing.T) {
	for _, x := range []struct{ bits, key uint64 }{
		{0xFFFFFFFFFFFFFFFF, 0},
		{0xFFF0000000000000, 0x000FFFFFFFFFFFFF},
		{0xBFF0000000000000, 0x400FFFFFFFFFFFFF},
		{0x8000000000000001, 0x7FFFFFFFFFFFFFFE},
		{0x8000000000000000, 0x7FFFFFFFFFFFFFFF},
		{0x0000000000000000, 0x8000000000000000},
		{0x0000000000000001, 0x8000000000000001},
		{0x3FF0000000000000, 0xBFF0000000000000},
		{0x7FF0000000000000, 0xFFF0000000000000},
		{0x7FF0000000000001, 0xFFF0000000000001},
		{0x7FFFFFFFFFFFFFFF, 0xFFFFFFFFFFFFFFFF},
	} {
		if got := Key(number(x.bits)); got != x.key {
			t.Errorf("Key of %X: %X, not %X", x.bits, got, x.key)
		}
		if got := math.Float64bits(Of(x.key)); got != x.bits {
			t.Errorf("Of(%X): %X, not %X", x.key, got, x.bits)
		}
	}
}

// TestKeyBack: P2.1, Of is Key back, and Key is Of back.
func TestKeyBack(t *testing.T) {
	for _, f := range someNumbers(2000) {
		if got := Of(Key(f)); math.Float64bits(got) != math.Float64bits(f) {
			t.Fatalf("Of(Key) of %X: %X", math.Float64bits(f), math.Float64bits(got))
		}
		key := math.Float64bits(f) // any number is a key
		if Key(Of(key)) != key {
			t.Fatalf("Key(Of(%X)): %X", key, Key(Of(key)))
		}
	}
}

// TestRising: P2.1 and P2.3, Less, Same and Join of all pairs in the order that the document names.
func TestRising(t *testing.T) {
	for i, x := range rising {
		for j, y := range rising {
			a, b := number(x.bits), number(y.bits)
			if Less(a, b) != (i < j) {
				t.Errorf("Less(%X, %X): %v", x.bits, y.bits, Less(a, b))
			}
			if Same(a, b) != (i == j) {
				t.Errorf("Same(%X, %X): %v", x.bits, y.bits, Same(a, b))
			}
			if got, want := math.Float64bits(Join(a, b)), rising[max(i, j)].bits; got != want {
				t.Errorf("Join(%X, %X): %X, not %X", x.bits, y.bits, got, want)
			}
		}
	}
}

// TestKind: P2.1, the kinds at the edges.
func TestKind(t *testing.T) {
	for _, x := range rising {
		if got := Kind(number(x.bits)); got != x.kind {
			t.Errorf("Kind of %X: %d, not %d", x.bits, got, x.kind)
		}
	}
}

// TestTotal: P2.3, of two numbers of unlike bits just one is less, and less goes on.
func TestTotal(t *testing.T) {
	l := someNumbers(60)
	for _, a := range l {
		for _, b := range l {
			n := 0
			for _, is := range []bool{Less(a, b), Less(b, a), Same(a, b)} {
				if is {
					n++
				}
			}
			if n != 1 {
				t.Fatalf("%X and %X: %d of less, greater and same", math.Float64bits(a), math.Float64bits(b), n)
			}
			for _, c := range l {
				if Less(a, b) && Less(b, c) && !Less(a, c) {
					t.Fatalf("Less does not go on: %X, %X, %X", math.Float64bits(a), math.Float64bits(b), math.Float64bits(c))
				}
			}
		}
	}
}

// TestJoinLeast: P2.3, the join is the least one that is not less than either, in any order, of any number.
func TestJoinLeast(t *testing.T) {
	l := someNumbers(20)
	for _, a := range l {
		for _, b := range l {
			j := Join(a, b)
			if Less(j, a) || Less(j, b) || !Same(j, Join(b, a)) || !Same(Join(j, a), j) {
				t.Fatalf("Join(%X, %X): %X", math.Float64bits(a), math.Float64bits(b), math.Float64bits(j))
			}
			for _, c := range l {
				if !Less(c, a) && !Less(c, b) && Less(c, j) {
					t.Fatalf("Join(%X, %X) is not the least", math.Float64bits(a), math.Float64bits(b))
				}
				if !Same(Join(j, c), Join(a, Join(b, c))) {
					t.Fatalf("Join of three hangs on the order")
				}
			}
		}
	}
}

// TestJoinMany: P2.3, however many there are, the join is the same one, whichever comes first.
func TestJoinMany(t *testing.T) {
	r := rand.New(rand.NewSource(4))
	l := someNumbers(10)
	for range 50 {
		r.Shuffle(len(l), func(i, j int) { l[i], l[j] = l[j], l[i] })
		n := r.Intn(len(l)) + 1
		join, greatest := l[0], Key(l[0])
		for _, f := range l[1:n] {
			join, greatest = Join(f, join), max(greatest, Key(f))
		}
		if Key(join) != greatest {
			t.Fatalf("Join of %d: %X, not %X", n, Key(join), greatest)
		}
	}
}

// TestLessOrdinary: P2.4, Less is < where neither is NaN nor nought.
func TestLessOrdinary(t *testing.T) {
	l := someNumbers(200)
	for _, a := range l {
		for _, b := range l {
			if math.IsNaN(a) || math.IsNaN(b) || a == 0 || b == 0 {
				continue
			}
			if Less(a, b) != (a < b) {
				t.Fatalf("Less(%v, %v): %v", a, b, Less(a, b))
			}
		}
	}
}

// TestSum: P2.2, sums whose bits are known.
func TestSum(t *testing.T) {
	minus, inf := math.Copysign(0, -1), math.Inf(1)
	for _, x := range []struct {
		l    []float64
		want uint64
	}{
		{nil, 0},
		{[]float64{}, 0},
		{[]float64{minus}, 0}, // from +0 on
		{[]float64{minus, minus}, 0},
		{[]float64{1, -1}, 0},
		{[]float64{-1, 1, minus}, 0},
		{[]float64{1, 2, 3.5}, math.Float64bits(6.5)},
		{[]float64{0.1, 0.2, 0.3}, 0x3FE3333333333334}, // each sum rounded, not the last one alone
		{[]float64{0.3, 0.2, 0.1}, 0x3FE3333333333333}, // in order
		{[]float64{1e16, 1, 1, -1e16}, 0},
		{[]float64{1, 1, 1e16, -1e16}, math.Float64bits(2)},
		{[]float64{number(leastBits), number(leastBits)}, 2},
		{[]float64{math.MaxFloat64, math.MaxFloat64, -math.MaxFloat64}, infBits},
		{[]float64{math.MaxFloat64, -math.MaxFloat64, math.MaxFloat64}, 0x7FEFFFFFFFFFFFFF},
		{[]float64{inf, 1, inf}, infBits},
		{[]float64{-inf, 1, -inf}, signBit | infBits},
		{[]float64{inf, -inf}, quiet},
		{[]float64{-inf, inf, 1}, quiet},
	} {
		if got := math.Float64bits(Sum(x.l)); got != x.want {
			t.Errorf("Sum(%v): %X, not %X", x.l, got, x.want)
		}
	}
}

// TestSumNaN: P2.2, a sum that is NaN is one and the same, whatever NaN comes in, and wherever.
func TestSumNaN(t *testing.T) {
	for _, x := range rising {
		if x.kind != 0 {
			continue
		}
		f := number(x.bits)
		for _, l := range [][]float64{{f}, {1, f}, {f, 1}, {f, f}, {f, math.Inf(-1)}, {math.Inf(1), f, -f}} {
			if got := math.Float64bits(Sum(l)); got != quiet {
				t.Errorf("Sum with %X: %X", x.bits, got)
			}
		}
	}
}

// TestSumKeep: what is handed in stays as it was, and what lies behind its length plays no part.
func TestSumKeep(t *testing.T) {
	l := []float64{1, 2, math.Copysign(0, -1), math.NaN()}
	if got := Sum(l[:3]); got != 3 {
		t.Errorf("Sum: %v", got)
	}
	Sum(l)
	if !slices.EqualFunc(l, []float64{1, 2, math.Copysign(0, -1), math.NaN()}, Same) {
		t.Errorf("the list is changed: %v", l)
	}
}

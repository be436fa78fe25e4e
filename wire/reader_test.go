package wire

import (
	"bytes"
	"errors"
	"math"
	"math/big"
	"math/rand"
	"runtime"
	"slices"
	"testing"

	"trug/api"
	"trug/total"
)

// wants is a read of bytes, and what it tells.
func wants(t *testing.T, what string, b []byte, want api.Errno, f func(r *Reader)) {
	t.Helper()
	if got := Read(b, f); got != want {
		t.Errorf("%s of %x: %d, not %d", what, b, got, want)
	}
}

func num(r *Reader)    { r.Num() }
func whole(r *Reader)  { r.Int() }
func float(r *Reader)  { r.Float() }
func vector(r *Reader) { r.Vector() }

func small(most int) func(r *Reader) { return func(r *Reader) { r.Small(most) } }
func text(most int) func(r *Reader)  { return func(r *Reader) { r.Text(most) } }

// TestReadNum: P3.2 and P3.3, numbers are read as they were written.
func TestReadNum(t *testing.T) {
	r := rand.New(rand.NewSource(2))
	for _, n := range someNums(r, 500) {
		got := uint64(0)
		wants(t, "Num", numBytes(n), api.OK, func(r *Reader) { got = r.Num() })
		if got != n {
			t.Errorf("Num: %d, not %d", got, n)
		}
		if n > math.MaxInt {
			wants(t, "Small", numBytes(n), api.ErrForm, small(math.MaxInt))
			continue
		}
		small := 0
		wants(t, "Small", numBytes(n), api.OK, func(r *Reader) { small = r.Small(int(n)) })
		if small != int(n) {
			t.Errorf("Small: %d, not %d", small, n)
		}
	}
}

// TestReadNumFaults: P3.2, the faults of numbers, the one that is met first.
func TestReadNumFaults(t *testing.T) {
	wants(t, "Num", nil, api.ErrShort, num)
	wants(t, "Num", []byte{0x81}, api.ErrShort, num)
	wants(t, "Num", []byte{0xFF, 0xFF}, api.ErrShort, num)
	wants(t, "Num", []byte{0x80, 0}, api.ErrForm, num)
	wants(t, "Num", []byte{0x80, 0x80, 1}, api.ErrForm, num)
	wants(t, "Num", []byte{0x80}, api.ErrForm, num) // the digit of nought is met ahead of the end
	wants(t, "Num", []byte{0x81, 0x80, 0}, api.OK, num)
	wants(t, "Num", []byte{0, 0}, api.ErrLong, num)
	wants(t, "Num", []byte{0, 0x80}, api.ErrLong, num)
	wants(t, "Num", nil, api.OK, func(r *Reader) {})
	wants(t, "nothing", []byte{1}, api.ErrLong, func(r *Reader) {})
	most := new(big.Int).SetUint64(math.MaxUint64)
	for i := range 3 {
		above := digits(new(big.Int).Add(most, big.NewInt(int64(i+1))))
		wants(t, "Num", above, api.ErrForm, num)
		wants(t, "Num", above[:len(above)-1], api.ErrShort, num)
	}
	for _, wide := range []uint{65, 70, 71, 128, 700} {
		wants(t, "Num", digits(new(big.Int).Lsh(big.NewInt(1), wide)), api.ErrForm, num)
	}
	long := bytes.Repeat([]byte{0xFF}, 1000)
	wants(t, "Num", long[:9], api.ErrShort, num)
	wants(t, "Num", long[:10], api.ErrForm, num) // the tenth digit is too much ahead of the end
	wants(t, "Num", long, api.ErrForm, num)
}

// TestReadSmallFaults: P3.2, numbers above most.
func TestReadSmallFaults(t *testing.T) {
	wants(t, "Small(5)", []byte{5}, api.OK, small(5))
	wants(t, "Small(5)", []byte{6}, api.ErrForm, small(5))
	wants(t, "Small(5)", []byte{6, 7}, api.ErrForm, small(5))
	wants(t, "Small(0)", []byte{0}, api.OK, small(0))
	wants(t, "Small(0)", []byte{1}, api.ErrForm, small(0))
	wants(t, "Small(-1)", []byte{0}, api.ErrForm, small(-1))
	wants(t, "Small(-1)", nil, api.ErrShort, small(-1))
	wants(t, "Small(5)", nil, api.ErrShort, small(5))
	wants(t, "Small(5)", []byte{0x81}, api.ErrShort, small(5))
	wants(t, "Small(5)", []byte{0x80, 5}, api.ErrForm, small(5))
	for _, n := range []uint64{1 << 63, math.MaxUint64, math.MaxUint64 - 5} {
		wants(t, "Small(-1)", numBytes(n), api.ErrForm, small(-1))
		wants(t, "Small(least)", numBytes(n), api.ErrForm, small(math.MinInt))
		wants(t, "Small(greatest)", numBytes(n), api.ErrForm, small(math.MaxInt))
	}
}

// TestReadInt: P3.2 and P3.3, whole numbers are read as they were written, from -2^62 to 2^62.
func TestReadInt(t *testing.T) {
	r := rand.New(rand.NewSource(3))
	for _, n := range someInts(r, 500) {
		got, want := 0, api.OK
		if n < -1<<62 || n > 1<<62 {
			want = api.ErrForm
		}
		wants(t, "Int", intBytes(n), want, func(r *Reader) { got = r.Int() })
		if want == api.OK && got != n {
			t.Errorf("Int: %d, not %d", got, n)
		}
	}
	wants(t, "Int", nil, api.ErrShort, whole)
	wants(t, "Int", []byte{0x81}, api.ErrShort, whole)
	wants(t, "Int", []byte{0x80, 1}, api.ErrForm, whole)
	wants(t, "Int", bytes.Repeat([]byte{0xFF}, 10), api.ErrForm, whole)
	wants(t, "Int", []byte{1, 1}, api.ErrLong, whole)
}

// TestReadText: P3.2 and P3.3, texts up to most.
func TestReadText(t *testing.T) {
	r := rand.New(rand.NewSource(4))
	for _, n := range []int{0, 1, 2, 127, 128, 300, 70000} {
		b := make([]byte, n)
		r.Read(b)
		all := New().Text(b).Bytes()
		for _, most := range []int{n, n + 1, math.MaxInt} {
			var got []byte
			wants(t, "Text", all, api.OK, func(r *Reader) { got = r.Text(most) })
			if !bytes.Equal(got, b) {
				t.Errorf("Text: %x, not %x", got, b)
			}
		}
		if n > 0 {
			wants(t, "Text", all[:len(all)-1], api.ErrShort, text(n))
		}
		wants(t, "Text", append(all, 0), api.ErrLong, text(n))
		for _, most := range []int{n - 1, -1, math.MinInt} {
			wants(t, "Text", all, api.ErrForm, text(most))
		}
	}
}

// TestReadTextFaults: P3.2, how many bytes a text has is met ahead of these.
func TestReadTextFaults(t *testing.T) {
	wants(t, "Text", nil, api.ErrShort, text(5))
	wants(t, "Text", nil, api.ErrShort, text(-1))
	wants(t, "Text", []byte{6}, api.ErrForm, text(5))
	wants(t, "Text", []byte{5}, api.ErrShort, text(5))
	wants(t, "Text", []byte("\x05abcd"), api.ErrShort, text(5))
	wants(t, "Text", []byte("\x80\x05abcde"), api.ErrForm, text(5))
	wants(t, "Text", []byte{0x82}, api.ErrShort, text(300))
	wants(t, "Text", append(numBytes(math.MaxInt), 'a'), api.ErrShort, text(math.MaxInt))
	wants(t, "Text", append(numBytes(math.MaxUint64), 'a'), api.ErrForm, text(math.MaxInt))
	wants(t, "Text", append(numBytes(math.MaxUint64), 'a'), api.ErrForm, text(-1))
}

// TestReadFloat: P3.2 and P3.3, floats of any bits.
func TestReadFloat(t *testing.T) {
	r := rand.New(rand.NewSource(5))
	l := []float64{0, math.Copysign(0, -1), 1, -1, math.Inf(1), math.Inf(-1), math.NaN(), math.Float64frombits(math.MaxUint64), total.Of(0)}
	for range 200 {
		l = append(l, math.Float64frombits(r.Uint64()))
	}
	for _, f := range l {
		b := New().Float(f).Bytes()
		got := 0.0
		wants(t, "Float", b, api.OK, func(r *Reader) { got = r.Float() })
		if !total.Same(got, f) {
			t.Errorf("Float: %x, not %x", math.Float64bits(got), math.Float64bits(f))
		}
		for n := range b {
			wants(t, "Float", b[:n], api.ErrShort, float)
		}
		wants(t, "Float", append(b, 0), api.ErrLong, float)
	}
}

// TestReadVector: P3.2 and P3.3, vectors of any numbers.
func TestReadVector(t *testing.T) {
	r := rand.New(rand.NewSource(6))
	for range 300 {
		v := api.Vector{}
		for i := range r.Intn(len(v) + 1) {
			v[i] = r.Uint32() >> r.Intn(33)
		}
		b := New().Vector(v).Bytes()
		got := api.Vector{}
		wants(t, "Vector", b, api.OK, func(r *Reader) { got = r.Vector() })
		if got != v {
			t.Errorf("Vector: %v, not %v", got, v)
		}
		for n := range b {
			wants(t, "Vector", b[:n], api.ErrShort, vector)
		}
		wants(t, "Vector", append(b, 0), api.ErrLong, vector)
	}
}

// TestReadVectorFaults: P3.2, the faults of vectors, the one that is met first.
func TestReadVectorFaults(t *testing.T) {
	wants(t, "Vector", []byte{13}, api.ErrForm, vector)
	wants(t, "Vector", []byte("\x0D\x01\x01\x01\x01\x01\x01\x01\x01\x01\x01\x01\x01\x01"), api.ErrForm, vector)
	wants(t, "Vector", []byte("\x0C\x01\x01\x01\x01\x01\x01\x01\x01\x01\x01\x01\x01"), api.OK, vector)
	wants(t, "Vector", []byte{12}, api.ErrShort, vector)
	wants(t, "Vector", numBytes(math.MaxUint64), api.ErrForm, vector)
	wants(t, "Vector", []byte{1, 0}, api.ErrForm, vector)
	wants(t, "Vector", []byte{3, 1, 2, 0, 9}, api.ErrForm, vector)
	wants(t, "Vector", []byte{3, 1, 0}, api.ErrShort, vector)
	wants(t, "Vector", []byte{3, 1, 0, 1}, api.OK, vector)
	wants(t, "Vector", append([]byte{1}, numBytes(math.MaxUint32)...), api.OK, vector)
	wants(t, "Vector", append([]byte{1}, numBytes(math.MaxUint32+1)...), api.ErrForm, vector)
	wants(t, "Vector", append([]byte{2}, numBytes(math.MaxUint32+1)...), api.ErrForm, vector) // ahead of the second one, that is missing
	wants(t, "Vector", []byte{2, 0x80}, api.ErrForm, vector)
	wants(t, "Vector", []byte{0x80, 1, 1}, api.ErrForm, vector)
}

// TestMust: P3.2, Must meets a fault where it is called.
func TestMust(t *testing.T) {
	wants(t, "Must(true)", nil, api.OK, func(r *Reader) { r.Must(true) })
	wants(t, "Must(true)", []byte{1}, api.ErrLong, func(r *Reader) { r.Must(true) })
	wants(t, "Must(false)", nil, api.ErrForm, func(r *Reader) { r.Must(false) })
	wants(t, "Must, then Num", nil, api.ErrForm, func(r *Reader) { r.Must(false); r.Num() })
	wants(t, "Num, then Must", nil, api.ErrShort, func(r *Reader) { r.Num(); r.Must(false) })
	wants(t, "Must, with bytes left", []byte{1, 2}, api.ErrForm, func(r *Reader) { r.Must(r.Num() == 2) })
}

// TestReadOn: P3.2, the next call goes on behind; a call that meets a fault does not come back.
func TestReadOn(t *testing.T) {
	b := New().Num(300).Int(-7).Text([]byte("ab")).Float(0.5).Vector(api.Vector{1, 2}).Num(9).Bytes()
	behind := false
	wants(t, "all", b, api.OK, func(r *Reader) {
		n, i, s, f, v, l := r.Num(), r.Int(), r.Text(2), r.Float(), r.Vector(), r.Small(9)
		if n != 300 || i != -7 || string(s) != "ab" || f != 0.5 || v != (api.Vector{1, 2}) || l != 9 {
			t.Errorf("Read: %v %v %q %v %v %v", n, i, s, f, v, l)
		}
	})
	wants(t, "a fault", b, api.ErrForm, func(r *Reader) { r.Small(299); behind = true })
	if behind {
		t.Errorf("a call that meets a fault comes back")
	}
	wants(t, "too much", b, api.ErrShort, func(r *Reader) {
		for {
			r.Num() // ends, since the bytes do
		}
	})
}

// TestReadNil: P3.2, nil functions, and readers that are nil or that no Read made.
func TestReadNil(t *testing.T) {
	for _, b := range [][]byte{nil, {}, {1}, {0x80}} {
		wants(t, "nil", b, api.ErrNil, nil)
	}
	for _, r := range []*Reader{nil, {}, new(Reader)} {
		checkDead(t, "no Read made it", r)
	}
}

// checkDead: a reader's calls tell 0, or nothing.
func checkDead(t *testing.T, what string, r *Reader) {
	t.Helper()
	r.Must(true)
	r.Must(false)
	if r.Num() != 0 || r.Small(9) != 0 || r.Small(-1) != 0 || r.Int() != 0 || len(r.Text(9)) != 0 || len(r.Text(-1)) != 0 {
		t.Errorf("%s: it tells something", what)
	}
	if !total.Same(r.Float(), 0) || r.Vector() != (api.Vector{}) {
		t.Errorf("%s: it tells something", what)
	}
}

// TestReadOver: P1, a reader whose Read has ended tells nothing, and panics no more, however it ended.
func TestReadOver(t *testing.T) {
	b := []byte{1, 2, 3}
	var kept []*Reader
	var copies []Reader
	keep := func(r *Reader) {
		kept, copies = append(kept, r), append(copies, *r)
		r.Num()
	}
	wants(t, "ErrLong", b, api.ErrLong, keep)
	wants(t, "OK", b[:1], api.OK, keep)
	wants(t, "a fault", nil, api.ErrShort, keep)
	caught := panics(func() { Read(b, func(r *Reader) { keep(r); panic("other") }) })
	if caught != "other" {
		t.Errorf("what f panics by: %v", caught)
	}
	if len(kept) != 4 {
		t.Fatalf("%d readers", len(kept))
	}
	for i := range kept {
		checkDead(t, "its Read has ended", kept[i])
		checkDead(t, "a copy, its Read has ended", &copies[i])
	}
}

// TestReadCopy: a copy of a reader reads on in the same bytes, and its faults are those of its Read.
func TestReadCopy(t *testing.T) {
	wants(t, "a copy", []byte{1, 2, 3}, api.OK, func(r *Reader) {
		c := *r
		if x, y, z := r.Num(), c.Num(), r.Num(); x != 1 || y != 2 || z != 3 {
			t.Errorf("a copy: %d %d %d", x, y, z)
		}
	})
	wants(t, "a copy's fault", []byte{1}, api.ErrForm, func(r *Reader) { c := *r; c.Small(0) })
}

// panics is what a function panics by.
func panics(f func()) (x any) {
	defer func() { x = recover() }()
	f()
	return nil
}

// TestReadPanics: P3.2 and P1, what else f panics by goes on as that.
func TestReadPanics(t *testing.T) {
	wrong := errors.New("wrong")
	pointer := new(int)
	for _, x := range []any{"text", 5, wrong, pointer, api.ErrShort, api.OK} {
		for _, b := range [][]byte{nil, {1, 2}} {
			if got := panics(func() { Read(b, func(r *Reader) { panic(x) }) }); got != x {
				t.Errorf("what f panics by: %v, not %v", got, x)
			}
		}
	}
	var none []int
	got := panics(func() { Read(nil, func(r *Reader) { none[len(none)]++ }) })
	if e, ok := got.(runtime.Error); !ok || e == nil {
		t.Errorf("what f panics by: %v", got)
	}
	if _, ok := panics(func() { Read(nil, func(r *Reader) { panic(nil) }) }).(*runtime.PanicNilError); !ok {
		t.Errorf("what f panics by, nil: lost")
	}
}

// TestReadSwallowed: P3.2, the fault that is met first is told, even if f recovers from it, whatever it does behind it.
func TestReadSwallowed(t *testing.T) {
	for i, behind := range []func(r *Reader){
		func(r *Reader) {},
		func(r *Reader) { r.Must(false) },
		func(r *Reader) { panics(func() { r.Num() }) },
		func(r *Reader) { panic("other") },
	} {
		wants(t, "a fault recovered", []byte{5, 7}, api.ErrForm, func(r *Reader) {
			panics(func() { r.Small(4) })
			behind(r)
		})
		wants(t, "a fault recovered", []byte{0x85}, api.ErrShort, func(r *Reader) {
			panics(func() { r.Num() })
			behind(r)
		})
		wants(t, "a fault in a deferred call", []byte{5, 7}, api.ErrForm, func(r *Reader) {
			defer behind(r)
			r.Small(4)
		})
		if t.Failed() {
			t.Fatalf("at %d", i)
		}
	}
	wants(t, "a fault handed on", nil, api.ErrShort, func(r *Reader) {
		x := panics(func() { r.Num() })
		panic(x)
	})
}

// TestReadNested: P3.2, each Read tells its own reader's faults.
func TestReadNested(t *testing.T) {
	inner, behind := api.OK, false
	wants(t, "the outer one", []byte{1, 2}, api.ErrLong, func(r *Reader) {
		r.Num()
		inner = Read([]byte{1}, func(s *Reader) { s.Small(0) })
	})
	if inner != api.ErrForm {
		t.Errorf("the inner one: %v", inner)
	}
	wants(t, "the outer one", []byte{1}, api.ErrShort, func(r *Reader) {
		Read([]byte{1, 2}, func(s *Reader) { r.Num(); s.Num(); r.Num() })
		behind = true
	})
	wants(t, "the outer one", []byte{1}, api.ErrForm, func(r *Reader) {
		Read(nil, func(s *Reader) {
			panics(func() { s.Num() })
			r.Small(0)
		})
		behind = true
	})
	if behind {
		t.Errorf("a call of the outer reader that meets a fault comes back")
	}
}

// TestReadKeep: what is handed in stays as it was, what lies behind it plays no part, and what is handed out is new.
func TestReadKeep(t *testing.T) {
	all := []byte("\x02ab\x02cd\x01e")
	old := slices.Clone(all)
	var first, second []byte
	wants(t, "a part", all[:6:7], api.OK, func(r *Reader) { first, second = r.Text(9), r.Text(9) })
	wants(t, "a part", all[:6], api.ErrShort, func(r *Reader) { r.Text(9); r.Text(9); r.Num() })
	first = append(first, 'x')
	first[0], second[0] = 'X', 'Y'
	if !bytes.Equal(all, old) || string(second) != "Yd" || string(first) != "Xbx" {
		t.Errorf("shared memory: %q, %q, %q", all, first, second)
	}
}

// item is something that is written and read: of a kind, with a text and a number that it stands for.
type item struct {
	kind int
	text []byte
	bits uint64
}

func (x item) vector() (v api.Vector) {
	for i := range x.bits % 13 {
		v[i] = uint32(x.bits >> (i * 5))
	}
	return v
}

func (x item) write(w *Writer) {
	switch x.kind {
	case 0:
		w.Num(x.bits)
	case 1:
		w.Int(int(x.bits) >> 1)
	case 2:
		w.Text(x.text)
	case 3:
		w.Float(math.Float64frombits(x.bits))
	case 4:
		w.Vector(x.vector())
	}
}

// echo reads what stands here, and writes it.
func echo(r *Reader, w *Writer, kind int) {
	switch kind {
	case 0:
		w.Num(r.Num())
	case 1:
		w.Int(r.Int())
	case 2:
		w.Text(r.Text(20))
	case 3:
		w.Float(r.Float())
	case 4:
		w.Vector(r.Vector())
	}
}

func someItems(r *rand.Rand) []item {
	var l []item
	for range r.Intn(6) {
		x := item{kind: r.Intn(5), bits: r.Uint64() >> r.Intn(64), text: make([]byte, r.Intn(20))}
		r.Read(x.text)
		l = append(l, x)
	}
	return l
}

func echoAll(r *Reader, w *Writer, l []item) {
	for _, x := range l {
		echo(r, w, x.kind)
	}
}

// TestThereAndBack: P3.3 and P2, what is written is read as it was; cut anywhere, it is nothing.
func TestThereAndBack(t *testing.T) {
	r := rand.New(rand.NewSource(7))
	for range 500 {
		l := someItems(r)
		w := New()
		for _, x := range l {
			x.write(w)
		}
		b, again := w.Bytes(), New()
		wants(t, "Read", b, api.OK, func(r *Reader) { echoAll(r, again, l) })
		wantBytes(t, "written again", again, b)
		for n := range b {
			wants(t, "cut", b[:n], api.ErrShort, func(r *Reader) { echoAll(r, New(), l) })
		}
		wants(t, "longer", append(b, byte(r.Intn(256))), api.ErrLong, func(r *Reader) { echoAll(r, New(), l) })
	}
}

// TestOneWay: P3.3 and P2, whatever is read, written again, is the same bytes: there is one way alone.
func TestOneWay(t *testing.T) {
	r := rand.New(rand.NewSource(8))
	read := 0
	for range 200000 {
		b := make([]byte, r.Intn(7))
		r.Read(b)
		for i := range b {
			if r.Intn(2) == 0 {
				b[i] = []byte{0, 1, 2, 127, 128, 129, 255}[r.Intn(7)]
			}
		}
		l, w := []item{{kind: r.Intn(5)}, {kind: r.Intn(5)}}[:1+r.Intn(2)], New()
		if Read(b, func(r *Reader) { echoAll(r, w, l) }) == api.OK {
			read++
			wantBytes(t, "written again", w, b)
		}
	}
	if read < 1000 {
		t.Errorf("just %d are read", read)
	}
}

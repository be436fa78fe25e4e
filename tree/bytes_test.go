package tree

import (
	"bytes"
	"math"
	"math/rand"
	"slices"
	"testing"

	"trug/api"
	"trug/wire"
)

// raw is the bytes that the document gives a tree, whether it may be or not.
func raw(x Tree) []byte {
	w := wire.New()
	for i := range 12 {
		w.Num(uint64(x.Kinds[i]))
	}
	w.Num(uint64(len(x.Edges)))
	for _, e := range x.Edges {
		w.Num(uint64(e.A)).Num(uint64(e.B))
	}
	return w.Bytes()
}

// same tells whether trees are equal, with their edges as they stand there.
func same(a, b Tree) bool { return a.Kinds == b.Kinds && slices.Equal(a.Edges, b.Edges) }

// put is a tree's bytes.
func put(x Tree) []byte {
	w := wire.New()
	Put(w, x)
	return w.Bytes()
}

// read is the tree of bytes, with nothing behind it.
func read(b []byte) (Tree, api.Errno) {
	var x Tree
	e := wire.Read(b, func(r *wire.Reader) { x = Get(r) })
	return x, e
}

// wantFault: bytes are no tree's.
func wantFault(t *testing.T, what string, b []byte, want api.Errno) {
	t.Helper()
	if x, e := read(b); !same(x, Tree{}) || e != want {
		t.Errorf("Get, %s: %.80x: %v %v, not %v", what, b, x, e, want)
	}
}

// TestPutKnown: P18.2, bytes that are known.
func TestPutKnown(t *testing.T) {
	for _, c := range []struct {
		x Tree
		b string
	}{
		{small(), "\x01\x02\x03\x00\x00\x00\x00\x00\x00\x00\x00\x00\x02\x01\x03\x02\x03"},
		{Tree{}, "\x00\x00\x00\x00\x00\x00\x00\x00\x00\x00\x00\x00\x00"},
		{Tree{kinds(0, 3, 0, 0, 0, 0, 0, 0, 0, 0, 0, 3), []Edge{{12, 2}}}, "\x00\x03\x00\x00\x00\x00\x00\x00\x00\x00\x00\x03\x01\x0c\x02"},
	} {
		if b := put(c.x); string(b) != c.b {
			t.Errorf("Put of %v: %x, not %x", c.x, b, c.b)
		}
		if x, e := read([]byte(c.b)); e != api.OK || !same(x, c.x) {
			t.Errorf("Get of %x: %v %v, not %v", c.b, x, e, c.x)
		}
	}
}

// TestThere: P18.2 and P2, trees go there and back as they are, behind others, and with others behind them.
func TestThere(t *testing.T) {
	r := rand.New(rand.NewSource(3))
	for range 1000 {
		x := grown(r, 1+r.Intn(12))
		b := put(x)
		if !bytes.Equal(b, raw(x)) {
			t.Fatalf("Put of %v: %x, not %x", x, b, raw(x))
		}
		if y, e := read(b); e != api.OK || !same(x, y) {
			t.Fatalf("Get of %x: %v %v, not %v", b, y, e, x)
		}
	}
	Put(nil, great()) // nothing to write to
	w := wire.New().Num(300)
	Put(w, great())
	Put(w, small())
	w.Text([]byte("end"))
	e := wire.Read(w.Bytes(), func(r *wire.Reader) {
		r.Must(r.Num() == 300)
		r.Must(same(Get(r), great()))
		r.Must(same(Get(r), small()))
		r.Must(string(r.Text(3)) == "end")
	})
	if e != api.OK {
		t.Errorf("Read: %v", e)
	}
}

// TestGetFaults: P18.2, bytes of a tree that may not be, a fault of the form.
func TestGetFaults(t *testing.T) {
	r := rand.New(rand.NewSource(4))
	wrong := 0
	for range 3000 {
		x := spoilt(r, grown(r, 1+r.Intn(11)))
		if b := raw(x); !wantRight(x) {
			wrong++
			wantFault(t, "may not be", b, api.ErrForm)
			if !bytes.Equal(put(x), b) {
				t.Fatalf("Put of %v: %x, not %x", x, put(x), b)
			}
		}
	}
	if wrong < 1000 {
		t.Errorf("just %d may not be: of little worth", wrong)
	}
	for _, n := range []uint64{4, 5, 128, 1 << 32, 1<<32 + 3, 1 << 63, math.MaxUint64} {
		for i := range 12 {
			w := wire.New()
			for j := range 12 {
				kind := uint64(0)
				if i == j {
					kind = n
				}
				w.Num(kind)
			}
			wantFault(t, "no kind", w.Num(0).Bytes(), api.ErrForm)
		}
	}
	wantFault(t, "a digit of nought, kind", []byte("\x80\x03\x00\x00\x00\x00\x00\x00\x00\x00\x00\x00\x00\x00"), api.ErrForm)
	wantFault(t, "a digit of nought, count", []byte("\x03\x00\x00\x00\x00\x00\x00\x00\x00\x00\x00\x00\x80\x00"), api.ErrForm)
	wantFault(t, "a digit of nought, edge", []byte("\x03\x03\x00\x00\x00\x00\x00\x00\x00\x00\x00\x00\x01\x80\x01\x02"), api.ErrForm)
}

// TestGetMany: P18.2, more than 11 edges, or as many as no list has.
func TestGetMany(t *testing.T) {
	x := great()
	for _, e := range []Edge{{1, 2}, {2, 1}, {1, 3}, {0, 0}} {
		y := Tree{x.Kinds, append(slices.Clone(x.Edges), e)}
		wantFault(t, "12 edges", raw(y), api.ErrForm)
	}
	if y, e := read(raw(x)); e != api.OK || len(y.Edges) != 11 {
		t.Errorf("11 edges: %v %v", y, e)
	}
	for _, n := range []uint64{12, 13, 1<<32 + 2, 1 << 63, math.MaxUint64} {
		b := append(raw(small())[:12], wire.New().Num(n).Bytes()...)
		wantFault(t, "too many, and cut", b, api.ErrForm)
		wantFault(t, "too many", append(b, 1, 3, 2, 3), api.ErrForm)
	}
	for _, n := range []uint64{13, 1<<32 + 3, math.MaxUint64} {
		b := append(raw(small())[:12], 2)
		wantFault(t, "of no node, and cut", append(b, wire.New().Num(n).Bytes()...), api.ErrForm)
		wantFault(t, "with no node, and cut", append(append(b, 1), wire.New().Num(n).Bytes()...), api.ErrForm)
	}
	for _, n := range []uint64{0, 13, 1<<32 + 3, math.MaxUint64} {
		b := append(raw(small())[:12], 2, 1, 3, 2)
		wantFault(t, "an edge with no node", append(b, wire.New().Num(n).Bytes()...), api.ErrForm)
		b = append(raw(small())[:12], 2, 1, 3)
		wantFault(t, "an edge of no node", append(append(b, wire.New().Num(n).Bytes()...), 3), api.ErrForm)
	}
}

// TestCut: P18.2 and P2, cut anywhere it is nothing; what stands behind is left.
func TestCut(t *testing.T) {
	for _, x := range []Tree{{}, small(), great(), {Kinds: kinds(0, 3)}} {
		b := raw(x)
		for n := range b {
			wantFault(t, "cut", b[:n:n], api.ErrShort)
		}
		if _, e := read(append(slices.Clone(b), 0)); e != api.ErrLong {
			t.Errorf("longer: %v", e)
		}
	}
	wantFault(t, "nil", nil, api.ErrShort)
}

// TestGetNil: P1, readers that read nothing.
func TestGetNil(t *testing.T) {
	var ended *wire.Reader
	if e := wire.Read(raw(small()), func(r *wire.Reader) { Get(r); ended = r }); e != api.OK {
		t.Fatalf("Read: %v", e)
	}
	for _, r := range []*wire.Reader{nil, {}, ended} {
		if x := Get(r); !same(x, Tree{}) {
			t.Errorf("Get: %v", x)
		}
	}
}

// TestTurned: P18.2 and P2, whatever is read may be, and, written again, is the same.
func TestTurned(t *testing.T) {
	r := rand.New(rand.NewSource(5))
	whole := 0
	for range 100000 {
		b := raw(grown(r, 1+r.Intn(6)))
		for range 1 + r.Intn(2) {
			b[r.Intn(len(b))] = []byte{0, 1, 2, 3, 4, byte(r.Intn(14)), 128, byte(r.Intn(256))}[r.Intn(8)]
		}
		x, e := read(b)
		if e != api.OK {
			continue
		}
		whole++
		if !wantRight(x) || !bytes.Equal(put(x), b) {
			t.Fatalf("%x, written again: %x, of %v", b, put(x), x)
		}
	}
	if whole < 5000 {
		t.Errorf("just %d are whole: of little worth", whole)
	}
}

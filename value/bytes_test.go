package value

import (
	"bytes"
	"math/rand"
	"slices"
	"testing"

	"trug/api"
	"trug/mark"
	"trug/total"
	"trug/wire"
)

// raw is the bytes that the document gives a value, whether it may be or not.
func raw(v Value) []byte {
	w := wire.New().Num(uint64(len(v)))
	for _, r := range v {
		w.Num(uint64(r.Seller)).Num(uint64(r.Line.Sku)).Num(uint64(r.Line.Qty)).Num(uint64(r.Line.Mark.Flag))
		if r.Line.Mark.Has {
			w.Num(1).Float(r.Line.Mark.Price)
		} else {
			w.Num(0)
		}
	}
	return w.Bytes()
}

// wantNone: bytes are no value's.
func wantNone(t *testing.T, what string, b []byte) {
	t.Helper()
	if v, e := Read(b); e != api.ErrForm || len(v) != 0 {
		t.Errorf("Read, %s: %x: %v %v", what, b, v, e)
	}
}

// TestWriteKnown: P9.2, bytes that are known.
func TestWriteKnown(t *testing.T) {
	v := Value{row(2, 5, 300, mark.Flag(1)), row(12, 40, 0, mark.Join(mark.Flag(3), mark.Price(1)))}
	if b, e := Write(v); e != api.OK || string(b) != "\x02\x02\x05\x82\x2c\x01\x00\x0c\x28\x00\x03\x01\xbf\xf0\x00\x00\x00\x00\x00\x00" {
		t.Errorf("Write: %x %v", b, e)
	}
	if b, e := Write(nil); e != api.OK || string(b) != "\x00" {
		t.Errorf("Write of no rows: %x %v", b, e)
	}
}

// TestWrite: P9.2, bytes of values that may be, and of these alone.
func TestWrite(t *testing.T) {
	for _, v := range edges() {
		if b, e := Write(v); e != api.OK || !bytes.Equal(b, raw(v)) {
			t.Errorf("Write(%v): %x %v", v, b, e)
		}
	}
	for _, v := range noValues() {
		if b, e := Write(v); e != api.ErrForm || len(b) != 0 {
			t.Errorf("Write(%v): %x %v", v, b, e)
		}
	}
}

// TestRead: P9.2, P9.3 and P2, there and back; cut anywhere, or longer, it is nothing.
func TestRead(t *testing.T) {
	r := rand.New(rand.NewSource(3))
	list := edges()
	for range 40 {
		list = append(list, some(r))
	}
	for _, v := range list {
		b := raw(v)
		old := slices.Clone(b)
		if got, e := Read(b); e != api.OK || !Same(got, v) {
			t.Errorf("Read(%x): %v %v", b, got, e)
		}
		for n := range b {
			wantNone(t, "cut", b[:n])
		}
		wantNone(t, "longer", append(slices.Clone(b), 0))
		wantNone(t, "twice", slices.Repeat(b, 2))
		if !bytes.Equal(b, old) {
			t.Errorf("the bytes are changed: %x", b)
		}
	}
}

// TestReadFaults: P9.2, bytes of values that may not be, and of no values at all.
func TestReadFaults(t *testing.T) {
	wantNone(t, "nil", nil)
	for _, v := range noValues() {
		hidden := func(r Row) bool { return !r.Line.Mark.Has && !total.Same(r.Line.Mark.Price, 0) } // not in the bytes
		if !slices.ContainsFunc(v, hidden) {
			wantNone(t, "of a value that may not be", raw(v))
		}
	}
	for i := range 5 {
		n := []uint64{1, 1, 1, 0, 0}
		n[i] += 1 << 32
		w := wire.New().Num(1)
		for _, x := range n {
			w.Num(x)
		}
		wantNone(t, "wide", w.Bytes())
	}
	if v, e := Read([]byte("\x01\x01\x01\x01\x00\x00")); e != api.OK || !Same(v, Value{one(1, 1)}) {
		t.Errorf("Read: %v %v", v, e)
	}
	wantNone(t, "neither a price nor none", []byte("\x01\x01\x01\x01\x00\x02"))
	wantNone(t, "neither a price nor none", []byte("\x01\x01\x01\x01\x00\x02\xbf\xf0\x00\x00\x00\x00\x00\x00"))
	wantNone(t, "a price and none", []byte("\x01\x01\x01\x01\x00\x00\xbf\xf0\x00\x00\x00\x00\x00\x00"))
	wantNone(t, "a digit of nought ahead", []byte("\x01\x80\x01\x01\x01\x00\x00"))
	wantNone(t, "more rows than are there", []byte("\x02\x01\x01\x01\x00\x00"))
	wantNone(t, "fewer rows than are there", []byte("\x00\x01\x01\x01\x00\x00"))
	wantNone(t, "as many rows as may not be", []byte("\x83\x61"))
	wantNone(t, "as many rows as no list has", []byte("\x81\xff\xff\xff\xff\xff\xff\xff\xff\x7f"))
}

// TestOneWay: P9.3 and P2, whatever is read, written again, is the same bytes.
func TestOneWay(t *testing.T) {
	r := rand.New(rand.NewSource(4))
	read := 0
	var known [][]byte
	for range 200 {
		v := some(r)
		known = append(known, raw(v[:min(len(v), 3)]))
	}
	for range 200000 {
		b := slices.Clone(known[r.Intn(len(known))]) // one or two bytes of it turned
		for range 1 + r.Intn(2) {
			b[r.Intn(len(b))] = []byte{0, 1, 2, 3, 12, 40, 128, byte(r.Intn(256))}[r.Intn(8)]
		}
		v, e := Read(b)
		if e != api.OK {
			continue
		}
		read++
		if again, e := Write(v); e != api.OK || !bytes.Equal(again, b) {
			t.Fatalf("%x, written again: %x %v", b, again, e)
		}
	}
	if read < 3000 {
		t.Errorf("just %d are read", read)
	}
}

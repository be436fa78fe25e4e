package index

import (
	"bytes"
	"math/rand"
	"slices"
	"testing"

	"trug/api"
	"trug/label"
	"trug/wire"
)

// raw is the bytes that the document gives an index, whether it may be or not.
func raw(cart uint64, entries []Entry, waits ...label.Label) []byte {
	w := wire.New().Num(cart).Num(uint64(len(entries)))
	for _, y := range entries {
		w.Num(uint64(y.Dot.Node)).Num(uint64(y.Dot.N)).Num(uint64(y.Seller))
	}
	w.Num(uint64(len(waits)))
	for _, l := range waits {
		label.Put(w, l)
	}
	return w.Bytes()
}

// goesThere asks whether an index goes there and back, and is the same then, whatever comes.
func goesThere(t *testing.T, x *Index) {
	t.Helper()
	b := x.Save()
	if want := raw(uint64(x.Cart()), x.Entries(), x.Waits()...); !bytes.Equal(b, want) {
		t.Fatalf("Save: %x, want %x", b, want)
	}
	y, e := Load(b)
	if e != api.OK || y.Cart() != x.Cart() {
		t.Fatalf("Load(%x): %v %v", b, y, e)
	}
	has(t, y, x.Entries(), x.Waits())
	if !bytes.Equal(y.Save(), b) {
		t.Fatalf("Load, Save: %x, not %x", y.Save(), b)
	}
}

// wantNone: bytes are no index's.
func wantNone(t *testing.T, what string, b []byte) {
	t.Helper()
	if x, e := Load(b); x != nil || e != api.ErrForm {
		t.Errorf("Load, %s: %x: %v %v", what, b, x, e)
	}
}

// TestSaveKnown: P10.3, bytes that are known.
func TestSaveKnown(t *testing.T) {
	x := of(t)
	if b := x.Save(); string(b) != "\x01\x00\x00" {
		t.Errorf("Save: %x", b)
	}
	x = of(t, lab(300, 12, 1, 4, api.Vector{}), lab(9, 2, 1, 3, api.Vector{}), lab(301, 3, 2, 5, api.Vector{0, 200}))
	if b := x.Save(); string(b) != "\x01\x02\x0c\x01\x04\x02\x01\x03\x01\x82\x2d\x03\x02\x01\x05\x03\x00\x81\x48\x01" {
		t.Errorf("Save: %x", b)
	}
	goesThere(t, x)
}

// TestGoesOn: P10.3, a loaded index goes on as the one that was saved.
func TestGoesOn(t *testing.T) {
	r := rand.New(rand.NewSource(11))
	for range 1000 {
		l := history(r, 1+r.Intn(12))
		r.Shuffle(len(l), func(i, j int) { l[i], l[j] = l[j], l[i] })
		k := r.Intn(len(l))
		x := of(t, l[:k]...)
		y, e := Load(x.Save())
		if e != api.OK {
			t.Fatalf("Load: %v", e)
		}
		for _, z := range l[k:] {
			n, e := x.Add(z)
			if m, f := y.Add(z); m != n || f != e {
				t.Fatalf("Add: %d %v, and loaded %d %v", n, e, m, f)
			}
		}
		if !bytes.Equal(x.Save(), y.Save()) {
			t.Fatalf("Save: %x, and loaded %x", x.Save(), y.Save())
		}
	}
}

// TestCut: P10.3 and P2, cut anywhere, or longer, it is nothing; the bytes are not changed.
func TestCut(t *testing.T) {
	r := rand.New(rand.NewSource(12))
	for range 100 {
		l := history(r, r.Intn(12))
		r.Shuffle(len(l), func(i, j int) { l[i], l[j] = l[j], l[i] })
		b := of(t, l[:len(l)/2]...).Save()
		was := slices.Clone(b)
		for n := range b {
			wantNone(t, "cut", b[:n])
		}
		wantNone(t, "longer", append(slices.Clone(b), 0))
		wantNone(t, "twice", slices.Repeat(b, 2))
		if !bytes.Equal(b, was) {
			t.Errorf("the bytes are changed: %x", b)
		}
	}
	wantNone(t, "nil", nil)
}

// TestLoadFaults: P10.3, bytes of no index.
func TestLoadFaults(t *testing.T) {
	var none api.Vector
	wantNone(t, "no cart", raw(0, nil))
	wantNone(t, "no cart", raw(13, nil))
	wantNone(t, "no cart", raw(1<<32+1, nil))
	for _, l := range [][]Entry{
		{entry(1, 2, 1)}, {entry(1, 0, 1)}, {entry(0, 1, 1)}, {entry(13, 1, 1)}, {entry(1, 1, 0)}, {entry(1, 1, 13)},
		{entry(1, 1, 1), entry(1, 1, 1)}, {entry(1, 1, 1), entry(1, 3, 1)}, {entry(1, 2, 1), entry(1, 1, 1)}, {entry(1, 1, 1), entry(2, 2, 1)},
		{entry(1, api.MaxCount+1, 1)}, {entry(1<<32+1, 1, 1)}, {entry(1, 1, 1<<32+1)},
	} {
		wantNone(t, "entries that can't be", raw(1, l))
	}
	ok := lab(5, 3, 2, 4, none)
	other := ok
	other.Cart = 2
	mark := ok
	mark.Seller = 0
	for _, l := range [][]label.Label{
		{other}, {mark}, {lab(0, 3, 2, 4, none)}, {lab(5, 3, 2, 13, none)}, {label.Label{}},
		{ok, ok}, {ok, lab(4, 3, 3, 4, none)}, {ok, lab(5, 2, 2, 4, none)}, {ok, lab(6, 3, 2, 9, none)}, {lab(5, 3, 3, 4, none), ok},
		{lab(5, 3, 1, 4, none)}, {lab(5, 3, 1, 4, api.Vector{1})}, {lab(5, 1, 2, 4, none)}, {ok, lab(9, 3, 1, 4, none)}, // they would come in
		{lab(5, 1, 1, 4, none)}, {lab(5, 1, 1, 4, api.Vector{0, 9})}, // its dot is covered
	} {
		wantNone(t, "labels that can't wait", raw(1, []Entry{entry(1, 1, 1)}, l...))
	}
	if x, e := Load(raw(1, []Entry{entry(1, 1, 1)}, ok, lab(6, 3, 3, 1, none))); e != api.OK || len(x.Waits()) != 2 {
		t.Errorf("Load: %v %v", x, e)
	}
	wantNone(t, "a digit of nought ahead", []byte("\x80\x01\x00\x00"))
	wantNone(t, "as many entries as no list has", []byte("\x01\x81\xff\xff\xff\xff\xff\xff\xff\xff\x7f"))
	wantNone(t, "as many labels as no list has", []byte("\x01\x00\x81\xff\xff\xff\xff\xff\xff\xff\xff\x7f"))
}

// TestLoadFull: P10.3, at most MaxLabels entries and labels that wait.
func TestLoadFull(t *testing.T) {
	var entries []Entry
	var waits []label.Label
	for n := range uint32(api.MaxLabels + 1) {
		entries = append(entries, entry(1, n+1, 1))
		waits = append(waits, lab(1, 2, n+2, 2, api.Vector{}))
	}
	for _, in := range []int{0, 1, 200, api.MaxLabels} {
		if x, e := Load(raw(1, entries[:in], waits[:api.MaxLabels-in]...)); e != api.OK || len(x.Entries()) != in {
			t.Errorf("Load of %d and the others: %v", in, e)
		}
		wantNone(t, "one too many waits", raw(1, entries[:in], waits[:api.MaxLabels-in+1]...))
	}
	wantNone(t, "one too many entries", raw(1, entries))
}

// TestOneWay: P10.3 and P2, whatever is loaded, saved again, is the same bytes.
func TestOneWay(t *testing.T) {
	r := rand.New(rand.NewSource(13))
	read := 0
	var known [][]byte
	for range 300 {
		l := history(r, r.Intn(6))
		r.Shuffle(len(l), func(i, j int) { l[i], l[j] = l[j], l[i] })
		known = append(known, of(t, l[:len(l)-len(l)/3]...).Save())
	}
	for range 300000 {
		b := slices.Clone(known[r.Intn(len(known))]) // some bytes of it turned
		for range 1 + r.Intn(3) {
			b[r.Intn(len(b))] = []byte{0, 1, 2, 3, 12, 128, byte(r.Intn(256))}[r.Intn(7)]
		}
		x, e := Load(b)
		if e != api.OK {
			if x != nil || e != api.ErrForm {
				t.Fatalf("Load(%x): %v %v", b, x, e)
			}
			continue
		}
		read++
		if again := x.Save(); !bytes.Equal(again, b) {
			t.Fatalf("%x, saved again: %x", b, again)
		}
	}
	if read < 3000 {
		t.Errorf("just %d are read", read)
	}
}

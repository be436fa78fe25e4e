package link

import (
	"bytes"
	"math"
	"math/rand"
	"slices"
	"strings"
	"testing"

	"trug/api"
	"trug/wire"
)

// raw is the bytes that the document gives a link, whether it may be or not.
func raw(next, expect uint64, texts ...string) []byte {
	w := wire.New().Num(next).Num(uint64(len(texts)))
	for _, b := range texts {
		w.Text([]byte(b))
	}
	return w.Num(expect).Bytes()
}

// read is the link of bytes, with nothing behind it.
func read(b []byte) (*Link, api.Errno) {
	var l *Link
	e := wire.Read(b, func(r *wire.Reader) { l = Get(r) })
	return l, e
}

// goesThere asks whether a link goes there and back, and tells what comes back.
func goesThere(t *testing.T, l *Link) *Link {
	t.Helper()
	var texts []string
	for _, x := range l.Queue() {
		texts = append(texts, string(x.Data))
	}
	w := wire.New()
	l.Put(w)
	b := w.Bytes()
	if want := raw(l.Next(), l.Expect(), texts...); !bytes.Equal(b, want) {
		t.Fatalf("Put: %.60x, not %.60x", b, want)
	}
	back, e := read(b)
	if e != api.OK || back == nil {
		t.Fatalf("Get of %.60x: %v", b, e)
	}
	has(t, back, l.Next(), l.Expect(), texts...)
	w = wire.New()
	back.Put(w)
	if !bytes.Equal(w.Bytes(), b) {
		t.Fatalf("Get, Put: %.60x, not %.60x", w.Bytes(), b)
	}
	return back
}

// wantFault: bytes are no link's.
func wantFault(t *testing.T, what string, b []byte, want api.Errno) {
	t.Helper()
	if l, e := read(b); l != nil || e != want {
		t.Errorf("Get, %s: %.60x: %v %v, not %v", what, b, l, e, want)
	}
}

// TestPutKnown: P16.3, bytes that are known.
func TestPutKnown(t *testing.T) {
	known := func(l *Link, want string) {
		t.Helper()
		w := wire.New()
		l.Put(w)
		if b := w.Bytes(); string(b) != want {
			t.Errorf("Put: %x, not %x", b, want)
		}
		goesThere(t, l)
	}
	l := New()
	known(l, "\x01\x00\x01")
	sends(t, l, "ab", 1)
	sends(t, l, "c", 2)
	known(l, "\x03\x02\x02ab\x01c\x01")
	takes(t, l, 1, true, api.OK)
	takes(t, l, 2, true, api.OK)
	takes(t, l, 3, true, api.OK)
	known(l, "\x03\x02\x02ab\x01c\x04")
	acks(t, l, 1, 1, api.OK)
	known(l, "\x03\x01\x01c\x04")
	acks(t, l, 2, 1, api.OK)
	known(l, "\x03\x00\x04")
	known(at(t, 300, api.MaxTime+1, "c"), "\x82\x2c\x01\x01c\xa0\x80\x80\x80\x80\x01")
}

// TestBehind: P16.3, a link behind others, and others behind it.
func TestBehind(t *testing.T) {
	w := wire.New().Num(300)
	at(t, 9, 4, "a", "b").Put(w)
	New().Put(w)
	w.Text([]byte("end"))
	e := wire.Read(w.Bytes(), func(r *wire.Reader) {
		r.Must(r.Num() == 300)
		has(t, Get(r), 9, 4, "a", "b")
		has(t, Get(r), 1, 1)
		r.Must(string(r.Text(3)) == "end")
	})
	if e != api.OK {
		t.Errorf("Read: %v", e)
	}
	at(t, 9, 4, "a").Put(nil) // nothing to write to
}

// TestGetEdges: P16.3, the links at the edges of what may be.
func TestGetEdges(t *testing.T) {
	all := slices.Repeat([]string{"x"}, api.MaxQueue)
	greatest := strings.Repeat("g", api.MaxRecord)
	for _, c := range []struct {
		next, expect uint64
		texts        []string
	}{
		{1, 1, nil}, {2, 1, []string{"a"}}, {2, 1, nil}, {1, 2, nil}, {1, 1 << 20, nil},
		{3, 1, []string{"a", "b"}}, {4, 1, []string{"a", "b"}}, {251, 1, all}, {api.MaxTime + 1, api.MaxTime + 1, all},
		{api.MaxTime, api.MaxTime, all[:249]}, {api.MaxTime + 1, 1, nil}, {1, api.MaxTime + 1, nil}, {4, 4, []string{greatest, "a", greatest}},
	} {
		l := at(t, c.next, c.expect, c.texts...)
		has(t, l, c.next, c.expect, c.texts...)
		goesThere(t, l)
	}
}

// TestGetFaults: P16.3, bytes of no link, a fault of the form.
func TestGetFaults(t *testing.T) {
	for _, n := range []uint64{0, api.MaxTime + 2, 1 << 41, 1 << 63, math.MaxUint64} {
		wantFault(t, "no such number is next", raw(n, 1), api.ErrForm)
		wantFault(t, "no such number is expected", raw(1, n), api.ErrForm)
		wantFault(t, "no such number is expected", raw(9, n, "a"), api.ErrForm)
	}
	all := slices.Repeat([]string{"x"}, api.MaxQueue+1)
	wantFault(t, "more than MaxQueue", raw(1000, 1, all...), api.ErrForm)
	wantFault(t, "as many as no list has", []byte("\x09\x81\xff\xff\xff\xff\xff\xff\xff\xff\x7f\x01a\x01"), api.ErrForm)
	wantFault(t, "more than were sent", raw(1, 1, "a"), api.ErrForm)
	wantFault(t, "more than were sent", raw(2, 1, "a", "b"), api.ErrForm)
	wantFault(t, "more than were sent", raw(250, 1, all[:250]...), api.ErrForm)
	wantFault(t, "no text", raw(9, 1, ""), api.ErrForm)
	wantFault(t, "no text", raw(9, 1, "a", "", "c"), api.ErrForm)
	wantFault(t, "no text", raw(9, 1, "a", strings.Repeat("x", api.MaxRecord+1)), api.ErrForm)
	for _, b := range []string{"\x80\x01\x00\x01", "\x01\x80\x00\x01", "\x01\x00\x80\x01", "\x03\x01\x80\x01a\x01"} {
		wantFault(t, "a digit of nought ahead", []byte(b), api.ErrForm)
	}
}

// TestGetFirst: P16.3, of two faults the one that is met first.
func TestGetFirst(t *testing.T) {
	for _, b := range []string{"\x00", "\x01\x01", "\x09\x03\x00", "\x09\x8f\xff\x7f", "\x09\x02\x01a\x00", "\x09\x01\x8e\x09"} {
		wantFault(t, "no link's, and cut", []byte(b), api.ErrForm)
		wantFault(t, "no link's, and longer", []byte(b+"\x01\x01a\x01\x01\x01"), api.ErrForm)
	}
	wantFault(t, "cut ahead of a nought", []byte("\x09\x02\x01a"), api.ErrShort)
	wantFault(t, "cut", []byte("\x09\x02\x8e\x08a"), api.ErrShort)
}

// TestCut: P16.3 and P2, cut anywhere it is nothing; what stands behind is left.
func TestCut(t *testing.T) {
	for _, b := range [][]byte{raw(1, 1), raw(300, 300, "a", "bcd"), raw(api.MaxTime, api.MaxTime+1, strings.Repeat("g", 200), "x")} {
		for n := range b {
			wantFault(t, "cut", b[:n:n], api.ErrShort)
		}
		if _, e := read(append(slices.Clone(b), 0)); e != api.ErrLong {
			t.Errorf("longer: %v", e)
		}
	}
	wantFault(t, "nil", nil, api.ErrShort)
}

// TestGetNil: P1, readers that read nothing.
func TestGetNil(t *testing.T) {
	var ended *wire.Reader
	if e := wire.Read(raw(9, 4, "a"), func(r *wire.Reader) { Get(r); ended = r }); e != api.OK {
		t.Fatalf("Read: %v", e)
	}
	for _, r := range []*wire.Reader{nil, {}, ended} {
		l := Get(r)
		has(t, l, 0, 0)
		refuses(t, l, []byte("a"), api.ErrNil)
		if l != nil {
			t.Errorf("Get: %v", l)
		}
	}
}

// TestTurned: P16.3 and P2, whatever is read, written again, is the same.
func TestTurned(t *testing.T) {
	r := rand.New(rand.NewSource(2))
	var known [][]byte
	for range 200 {
		var texts []string
		for range r.Intn(6) {
			texts = append(texts, strings.Repeat("\x01", 1+r.Intn(3)))
		}
		known = append(known, raw(uint64(1+len(texts)+r.Intn(3)), uint64(1+r.Intn(200)), texts...))
	}
	whole := 0
	for range 200000 {
		b := slices.Clone(known[r.Intn(len(known))])
		for range 1 + r.Intn(3) {
			b[r.Intn(len(b))] = []byte{0, 1, 2, 3, 128, 129, byte(r.Intn(256))}[r.Intn(7)]
		}
		l, e := read(b)
		if e != api.OK {
			continue
		}
		whole++
		w := wire.New()
		l.Put(w)
		if !bytes.Equal(w.Bytes(), b) {
			t.Fatalf("%x, written again: %x", b, w.Bytes())
		}
		goesThere(t, l)
	}
	if whole < 20000 {
		t.Errorf("just %d are whole: of little worth", whole)
	}
}

package links

import (
	"bytes"
	"math"
	"math/rand"
	"slices"
	"strings"
	"testing"

	"trug/api"
	"trug/packet"
	"trug/wire"
)

// tryRead is the links of bytes, with nothing behind them.
func tryRead(b []byte) (*Links, api.Errno) {
	var l *Links
	e := wire.Read(b, func(r *wire.Reader) { l = Get(r) })
	return l, e
}

// read is the links of bytes that are some.
func read(t *testing.T, b []byte) *Links {
	t.Helper()
	l, e := tryRead(b)
	if e != api.OK || l == nil {
		t.Fatalf("Get of %.80x: %v", b, e)
	}
	return l
}

// wantFault: bytes are no links'.
func wantFault(t *testing.T, what string, b []byte, want api.Errno) {
	t.Helper()
	if l, e := tryRead(b); l != nil || e != want {
		t.Errorf("Get, %s: %.80x: %v %v, not %v", what, b, l, e, want)
	}
}

// some is models of links at the edges of what may be.
func some() []*model {
	all := slices.Repeat([]string{"x"}, api.MaxQueue)
	greatest := strings.Repeat("g", api.MaxRecord)
	every := func(own int) map[int]*state {
		links := map[int]*state{}
		for n := 1; n <= 12; n++ {
			if n != own {
				links[n] = &state{uint64(n + 1), uint64(n), nil}
			}
		}
		return links
	}
	return []*model{
		newModel(1),
		newModel(12),
		{1, map[int]*state{2: {2, 1, nil}}},
		{1, map[int]*state{2: {2, 1, []string{"a"}}}},
		{2, map[int]*state{1: {1, 2, nil}}},
		{2, map[int]*state{1: {1, api.MaxTime + 1, nil}, 12: {api.MaxTime + 1, 1, all}}},
		{12, map[int]*state{11: {300, 200, []string{greatest, "\x00"}}}},
		{1, every(1)}, {7, every(7)}, {12, every(12)},
	}
}

// TestPutKnown: P17.4, bytes that are known.
func TestPutKnown(t *testing.T) {
	known := func(l *Links, want string) {
		t.Helper()
		if b := put(l); string(b) != want {
			t.Errorf("Put: %x, not %x", b, want)
		}
	}
	l, m := start(t, 3)
	known(l, "\x03\x00")
	m.sends(t, l, 12, "ab")
	known(l, "\x03\x01\x0c\x02\x01\x02ab\x01")
	m.takes(t, l, 1, "x")
	m.takes(t, l, 1, "y")
	known(l, "\x03\x02\x01\x01\x00\x03\x0c\x02\x01\x02ab\x01")
	acks(t, l, 12, 1, 1, api.OK)
	known(l, "\x03\x02\x01\x01\x00\x03\x0c\x02\x00\x01")
}

// TestThere: P17.4 and P2, links go there and back, behind others, and with others behind them.
func TestThere(t *testing.T) {
	for _, m := range some() {
		l := read(t, m.raw())
		has(t, l, m)
		l.Put(nil) // nothing to write to
		w := wire.New().Num(300)
		l.Put(w)
		l.Put(w)
		w.Text([]byte("end"))
		e := wire.Read(w.Bytes(), func(r *wire.Reader) {
			r.Must(r.Num() == 300)
			has(t, Get(r), m)
			has(t, Get(r), m)
			r.Must(string(r.Text(3)) == "end")
		})
		if e != api.OK {
			t.Errorf("Read: %v", e)
		}
	}
}

// TestReadOn: P17.4, links that were read go on as others.
func TestReadOn(t *testing.T) {
	for _, m := range some() {
		l := read(t, m.raw())
		to := m.own%12 + 1
		if m.at(to); len(m.links[to].texts) < api.MaxQueue && m.links[to].next <= api.MaxTime {
			m.sends(t, l, to, "on")
		} else {
			refuses(t, l, to, []byte("on"), api.ErrFull)
		}
		if from := (m.own+9)%12 + 1; m.at(from).expect <= api.MaxTime {
			m.takes(t, l, from, "on")
		}
		has(t, l, m)
	}
}

// TestGetFaults: P17.4, bytes of no links, a fault of the form.
func TestGetFaults(t *testing.T) {
	for _, n := range []uint64{0, 13, 14, 128, 1<<32 + 1, 1 << 63, math.MaxUint64} {
		w := func() *wire.Writer { return wire.New() }
		wantFault(t, "of no node", w().Num(n).Num(0).Bytes(), api.ErrForm)
		wantFault(t, "of no node", w().Num(n).Num(1).Num(2).Num(2).Num(0).Num(1).Bytes(), api.ErrForm)
		wantFault(t, "to no node", w().Num(1).Num(1).Num(n).Num(2).Num(0).Num(1).Bytes(), api.ErrForm)
	}
	for _, n := range []uint64{12, 13, 300, 1<<32 + 1, 1 << 63, math.MaxUint64} {
		wantFault(t, "too many", append(wire.New().Num(1).Num(n).Bytes(), "\x02\x02\x00\x01"...), api.ErrForm)
	}
	for what, b := range map[string]string{
		"to its own":                "\x03\x01\x03\x02\x00\x01",
		"to its own, behind one":    "\x03\x02\x02\x02\x00\x01\x03\x02\x00\x01",
		"twice the same":            "\x03\x02\x02\x02\x00\x01\x02\x02\x00\x01",
		"falling":                   "\x03\x02\x02\x02\x00\x01\x01\x02\x00\x01",
		"to whom nothing happened":  "\x03\x01\x02\x01\x00\x01",
		"nothing happened, at last": "\x03\x02\x02\x02\x00\x01\x04\x01\x00\x01",
		"no link, no next one":      "\x03\x01\x02\x00\x00\x01",
		"no link, too many texts":   "\x03\x01\x02\x02\x02\x01a\x01b\x01",
		"no link, an empty text":    "\x03\x01\x02\x03\x01\x00\x01",
		"no link, none expected":    "\x03\x01\x02\x03\x01\x01a\x00",
		"a digit of nought, own":    "\x80\x03\x01\x02\x02\x00\x01",
		"a digit of nought, count":  "\x03\x80\x01\x02\x02\x00\x01",
		"a digit of nought, node":   "\x03\x01\x80\x02\x02\x00\x01",
	} {
		wantFault(t, what, []byte(b), api.ErrForm)
	}
}

// TestGetFirst: P17.4, of two faults the one that is met first.
func TestGetFirst(t *testing.T) {
	for _, b := range []string{"\x00", "\x0d", "\x03\x0c", "\x03\x01\x00", "\x03\x01\x03", "\x03\x02\x02\x02\x00\x01\x02", "\x03\x02\x02\x01\x00\x01"} {
		wantFault(t, "no links', and cut", []byte(b), api.ErrForm)
		wantFault(t, "no links', and longer", []byte(b+strings.Repeat("\x01", 40)), api.ErrForm)
	}
}

// TestCut: P17.4 and P2, cut anywhere they are nothing; what stands behind is left.
func TestCut(t *testing.T) {
	for _, m := range some() {
		b := m.raw()
		for n := range b {
			wantFault(t, "cut", b[:n:n], api.ErrShort)
		}
		if _, e := tryRead(append(slices.Clone(b), 0)); e != api.ErrLong {
			t.Errorf("longer: %v", e)
		}
	}
	wantFault(t, "nil", nil, api.ErrShort)
}

// TestGetNil: P1, readers that read nothing.
func TestGetNil(t *testing.T) {
	var ended *wire.Reader
	if e := wire.Read(some()[3].raw(), func(r *wire.Reader) { Get(r); ended = r }); e != api.OK {
		t.Fatalf("Read: %v", e)
	}
	for _, r := range []*wire.Reader{nil, {}, ended} {
		l := Get(r)
		refuses(t, l, 2, []byte("a"), api.ErrNil)
		passes(t, l, packet.Packet{From: 2, To: 1, Seq: 1, Data: []byte("a")}, api.ErrNil)
		if l != nil {
			t.Errorf("Get: %v", l)
		}
	}
}

// TestTurned: P17.4 and P2, whatever is read, written again, is the same.
func TestTurned(t *testing.T) {
	r := rand.New(rand.NewSource(2))
	var known [][]byte
	for range 200 {
		m := newModel(1 + r.Intn(12))
		for range r.Intn(5) {
			if to := 1 + r.Intn(12); to != m.own {
				n := r.Intn(3)
				m.links[to] = &state{uint64(2 + n + r.Intn(3)), uint64(1 + r.Intn(3)), slices.Repeat([]string{"\x01"}, n)}
			}
		}
		known = append(known, m.raw())
	}
	whole := 0
	for range 200000 {
		b := slices.Clone(known[r.Intn(len(known))])
		for range 1 + r.Intn(3) {
			b[r.Intn(len(b))] = []byte{0, 1, 2, 3, 12, 13, 128, byte(r.Intn(256))}[r.Intn(8)]
		}
		l, e := tryRead(b)
		if e == api.ErrLong {
			b = b[:min(len(b), len(put(l)))] // what stands ahead of the rest
		} else if e != api.OK {
			wantFault(t, "turned", b, e)
			continue
		}
		whole++
		if again := put(l); !bytes.Equal(again, b) {
			t.Fatalf("%x, written again: %x", b, again)
		}
		for _, n := range l.Peers() {
			_, took := l.Ack(n)
			if _, e := l.Acked(n, 1); n == l.Own() || e != api.OK && !took {
				t.Fatalf("%x: a link to %d", b, n)
			}
		}
	}
	if whole < 20000 {
		t.Errorf("just %d are whole: of little worth", whole)
	}
}

package store

import (
	"bytes"
	"math"
	"math/rand"
	"slices"
	"strings"
	"testing"

	"trug/api"
	"trug/clock"
	"trug/label"
	"trug/op"
	"trug/wire"
)

// tryRead is the store of bytes, with nothing behind them.
func tryRead(b []byte) (*Store, api.Errno) {
	var s *Store
	e := wire.Read(b, func(r *wire.Reader) { s = Get(r) })
	return s, e
}

// read is the store of bytes that are one.
func read(t *testing.T, b []byte) *Store {
	t.Helper()
	s, e := tryRead(b)
	if s == nil || e != api.OK {
		t.Fatalf("Get of %.80x: %v", b, e)
	}
	return s
}

// wantFault: bytes are no store's.
func wantFault(t *testing.T, what string, b []byte, want api.Errno) {
	t.Helper()
	if s, e := tryRead(b); s != nil || e != want {
		t.Errorf("Get, %s: %.80x: %v %v, not %v", what, b, s, e, want)
	}
}

// all is a store's knowledge of each cart as one vector.
func all(v api.Vector) func(int) api.Vector { return func(int) api.Vector { return v } }

// only is a store's knowledge of one cart alone.
func only(cart int, v api.Vector) func(int) api.Vector {
	return func(c int) api.Vector {
		if c != cart {
			return api.Vector{}
		}
		return v
	}
}

// some is models of stores at the edges of what may be.
func some(t *testing.T) []*model {
	t.Helper()
	none := api.Vector{}
	_, one := of(t, at(1, 1, 1, 1, none))
	_, several := of(t, at(12, 12, 12, api.MaxCount, most), at(3, 5, 2, 9, none), at(3, 4, 2, 10, none), at(3, 4, 11, 1, none), at(2, 5, 2, 9, api.Vector{300}))
	_, whole := full(t)
	_, purged := of(t, at(5, 2, 3, 7, most), at(5, 1, 3, 9, none), at(6, 2, 3, 7, api.Vector{130, 1}))
	purged.purge(2)
	_, empty := of(t, at(5, 2, 3, 7, most))
	empty.purge(2)
	greatest := newModel()
	for cart := 1; cart <= 12; cart++ {
		greatest.known[cart] = most
	}
	return []*model{newModel(), one, several, whole, purged, empty, greatest}
}

// TestPutKnown: P22.4, bytes that are known.
func TestPutKnown(t *testing.T) {
	known := func(s *Store, want string) {
		t.Helper()
		if b := put(s); string(b) != want {
			t.Errorf("Put: %x, not %x", b, want)
		}
	}
	known(New(), strings.Repeat("\x00", 13))
	s, _ := of(t, at(2, 4, 3, 1, api.Vector{0, 300}), at(12, 1, 1, 2, api.Vector{}), at(12, 4, 1, 3, api.Vector{}))
	carts := "\x00\x03\x00\x82\x2c\x01" + strings.Repeat("\x00", 9) + "\x01\x03"
	add := "\x01\x05\x04"
	known(s, carts+"\x03\x07\x01\x02\x0c\x01\x01\x01"+add+"\x07\x03\x01\x02\x04\x02\x00\x82\x2c"+add+"\x07\x01\x03\x0c\x04\x01\x02"+add)
	s.Purge(4)
	known(s, carts+"\x01\x07\x01\x02\x0c\x01\x01\x01"+add)
	s.Purge(1)
	known(s, carts+"\x00")
}

// TestThere: P22.4 and P2, stores go there and back, behind others, and with others behind them.
func TestThere(t *testing.T) {
	for _, m := range some(t) {
		s := read(t, m.raw())
		has(t, s, m)
		s.Put(nil) // nothing to write to
		w := wire.New().Num(300)
		s.Put(w)
		s.Put(w)
		w.Text([]byte("end"))
		e := wire.Read(w.Bytes(), func(r *wire.Reader) {
			r.Must(r.Num() == 300)
			has(t, Get(r), m)
			has(t, Get(r), m)
			r.Must(string(r.Text(3)) == "end")
		})
		if e != api.OK {
			t.Errorf("Read: %v", e)
		}
	}
}

// TestReadOn: P22.4, a store that was read goes on as another one.
func TestReadOn(t *testing.T) {
	for _, m := range some(t) {
		s := read(t, m.raw())
		seller := 0
		for _, x := range m.events {
			passes(t, s, x, api.OK)
			seller = x.Label.Seller
		}
		for _, x := range wrong() {
			passes(t, s, x, api.ErrForm)
		}
		if x := at(4, 2, 3, 1, api.Vector{}); len(m.events) == api.MaxEvents {
			passes(t, s, x, api.ErrFull)
		} else {
			m.comes(t, s, x)
		}
		if got := s.Purge(seller); got != m.purge(seller) {
			t.Errorf("Purge: %d", got)
		}
		has(t, s, m)
	}
}

// TestGetKnown: P22.4, of no cart more is known than may be, and not less than its events tell.
func TestGetKnown(t *testing.T) {
	for _, cart := range []int{1, 2, 7, 12} {
		for i := range 12 {
			for _, n := range []uint32{api.MaxCount + 1, 1 << 31, math.MaxUint32} {
				v := most
				v[i] = n
				b := raw(only(cart, v))
				wantFault(t, "too much is known", b, api.ErrForm)
				wantFault(t, "too much is known, longer", append(b, 0), api.ErrForm)
				upTo := len(b) - 1 - (12 - cart) // of the carts behind a byte each
				wantFault(t, "too much is known, cut", b[:upTo:upTo], api.ErrForm)
			}
		}
		x := at(cart, 3, 5, 9, api.Vector{4, 2})
		past := api.Vector{4, 2, 0, 0, 9}
		if s := read(t, raw(only(cart, past), x)); s.Len() != 1 {
			t.Errorf("Len: %d", s.Len())
		}
		wantFault(t, "of another cart", raw(only(cart%12+1, most), x), api.ErrForm)
		for i, n := range past {
			if n > 0 {
				v := past
				v[i]--
				wantFault(t, "less is known", raw(only(cart, v), x), api.ErrForm)
				wantFault(t, "less is known, longer", raw(only(cart, v), x, x, x), api.ErrForm)
			}
		}
	}
}

// TestGetOrder: P22.4, events stand by Seller, Cart, Node, N, and no two of one cart have one dot.
func TestGetOrder(t *testing.T) {
	none := api.Vector{}
	for _, pair := range [][2]op.Event{
		{at(1, 1, 1, 1, none), at(1, 1, 1, 2, none)},
		{at(1, 1, 1, 2, none), at(1, 1, 2, 1, none)},
		{at(1, 1, 2, 1, none), at(2, 1, 1, 1, none)},
		{at(2, 1, 1, 1, none), at(1, 2, 1, 1, none)},
		{at(2, 1, 2, 2, none), at(1, 2, 1, 1, none)},
		{at(12, 11, 12, 300, none), at(1, 12, 1, 299, none)},
		{at(1, 1, 1, 1, filled(9)), at(1, 1, 1, 300, none)},
	} {
		a, b := pair[0], pair[1]
		if s := read(t, raw(all(most), a, b)); s.Len() != 2 {
			t.Errorf("Len: %d", s.Len())
		}
		wantFault(t, "falling", raw(all(most), b, a), api.ErrForm)
		wantFault(t, "twice", raw(all(most), a, a), api.ErrForm)
		wantFault(t, "twice at last", raw(all(most), a, b, b), api.ErrForm)
		wantFault(t, "the first one again", raw(all(most), a, b, a), api.ErrForm)
		cut := raw(all(most), b, a, b)
		cut = cut[:len(raw(all(most), b, a))]
		wantFault(t, "falling, cut", cut, api.ErrForm)
	}
	a := at(3, 2, 4, 9, none)
	for _, seller := range []int{3, 12} {
		b := at(3, seller, 4, 9, none)
		wantFault(t, "one dot, of two sellers", raw(all(most), a, b), api.ErrForm)
		wantFault(t, "one dot, among others", raw(all(most), a, at(3, seller, 4, 8, none), b), api.ErrForm)
		if s := read(t, raw(all(most), a, at(4, seller, 4, 9, none))); s.Len() != 2 { // of two carts
			t.Errorf("Len: %d", s.Len())
		}
	}
}

// TestGetFaults: P22.4, bytes of no store, a fault of the form.
func TestGetFaults(t *testing.T) {
	none := api.Vector{}
	for _, x := range wrong() {
		if x.Label.Cart < 0 || x.Op.Price != 0 || math.Signbit(x.Op.Price) {
			continue // its bytes do not tell that
		}
		wantFault(t, "an event that may not be", raw(all(most), x), api.ErrForm)
		wantFault(t, "an event that may not be, at last", raw(all(most), at(1, 1, 3, 1, none), x), api.ErrForm)
	}
	var list []op.Event
	for n := range uint32(201) {
		list = append(list, at(1, 1, 1, n+1, none))
	}
	if s := read(t, raw(all(most), list[:200]...)); s.Len() != 200 {
		t.Errorf("Len: %d", s.Len())
	}
	wantFault(t, "too many", raw(all(most), list...), api.ErrForm)
	for _, n := range []uint64{201, 1 << 32, 1<<32 + 1, 1 << 63, math.MaxUint64} {
		wantFault(t, "too many, cut", append(make([]byte, 12), wire.New().Num(n).Bytes()...), api.ErrForm)
	}
	noughts := strings.Repeat("\x00", 12)
	for what, b := range map[string]string{
		"a digit of nought, how many known": "\x80\x01\x01" + noughts,
		"a digit of nought, known":          "\x01\x80\x01" + noughts,
		"a nought at the end":               "\x01\x00" + noughts,
		"thirteen numbers":                  "\x0d" + strings.Repeat("\x01", 13) + noughts,
		"a digit of nought, how many":       noughts + "\x80\x00",
		"a digit of nought, event":          "\x01\x01" + noughts[1:] + "\x01\x80\x07\x01\x01\x01\x01\x00\x04",
	} {
		wantFault(t, what, []byte(b), api.ErrForm)
	}
	if s := read(t, []byte("\x01\x01"+noughts[1:]+"\x01\x07\x01\x01\x01\x01\x00\x04")); !s.Has(1, 1, clock.Dot{Node: 1, N: 1}) {
		t.Errorf("Get: it is not there")
	}
}

// TestCut: P22.4 and P2, cut anywhere it is nothing; what stands behind is left.
func TestCut(t *testing.T) {
	for _, m := range some(t) {
		b := m.raw()
		for n := range b {
			wantFault(t, "cut", b[:n:n], api.ErrShort)
		}
		if _, e := tryRead(append(slices.Clone(b), 0)); e != api.ErrLong {
			t.Errorf("longer: %v", e)
		}
	}
	wantFault(t, "nil", nil, api.ErrShort)
}

// TestGetNil: P1, readers that read nothing: all that they tell is 0, and so is what they make.
func TestGetNil(t *testing.T) {
	var ended *wire.Reader
	if e := wire.Read(some(t)[1].raw(), func(r *wire.Reader) { Get(r); ended = r }); e != api.OK {
		t.Fatalf("Read: %v", e)
	}
	for _, r := range []*wire.Reader{nil, {}, ended} {
		has(t, Get(r), newModel())
	}
}

// TestTurned: P22.4 and P2, whatever is read, written again, is the same, and stands as the words say.
func TestTurned(t *testing.T) {
	r := rand.New(rand.NewSource(2))
	list := some(t)
	list = append(list[1:3], list[4])
	whole := 0
	for range 150000 {
		b := list[r.Intn(len(list))].raw()
		for range 1 + r.Intn(2) {
			b[r.Intn(len(b))] = []byte{0, 1, 2, 3, 12, 13, 128, byte(r.Intn(256))}[r.Intn(8)]
		}
		s, e := tryRead(b)
		if e == api.ErrLong {
			b = b[:min(len(b), len(put(s)))] // what stands ahead of the rest
		} else if e != api.OK {
			wantFault(t, "turned", b, e)
			continue
		}
		whole++
		if again := put(s); !bytes.Equal(again, b) {
			t.Fatalf("%x, written again: %x", b, again)
		}
		for _, seller := range s.Sellers() {
			for _, x := range s.Events(seller) {
				if !op.Right(x) || !clock.Covers(s.Known(x.Label.Cart), label.Past(x.Label)) {
					t.Fatalf("%x: %v, and known: %v", b, x, s.Known(x.Label.Cart))
				}
			}
		}
	}
	if whole < 10000 {
		t.Errorf("just %d are whole: of little worth", whole)
	}
}

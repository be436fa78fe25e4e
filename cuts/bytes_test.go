package cuts

import (
	"bytes"
	"math/rand"
	"slices"
	"testing"

	"trug/api"
	"trug/wire"
)

// The stances of raw: what has no Time is a promise.
var (
	none   *Stance
	vows   = &Stance{}
	offers = &Stance{Has: true, Time: 9, Cut: api.Vector{9, 9}}
)

// raw is the bytes that the document gives a table, whether it may be or not.
func raw(own, other uint64, mine, his *Stance, all ...Cut) []byte {
	w := wire.New().Num(own).Num(other).Num(uint64(len(all)))
	for _, c := range all {
		w.Num(uint64(c.Home)).Num(c.Time).Vector(c.Vector)
	}
	for _, s := range []*Stance{mine, his} {
		switch {
		case s == nil:
			w.Num(0)
		case !s.Has:
			w.Num(1)
		default:
			w.Num(2).Num(s.Time).Vector(s.Cut)
		}
	}
	return w.Bytes()
}

// goesThere asks whether a table goes there and back, and is the same then.
func goesThere(t *testing.T, u *Table) {
	t.Helper()
	b := u.Save()
	x, e := Load(b)
	if e != api.OK || x.Home() != u.Home() || x.Other() != u.Other() {
		t.Fatalf("Load(%x): %v %v", b, x, e)
	}
	if s, is := u.Own(); is {
		has(t, x, &s, u.Cuts()...)
	} else {
		has(t, x, nil, u.Cuts()...)
	}
	if !bytes.Equal(x.Save(), b) {
		t.Fatalf("Load, Save: %x, not %x", x.Save(), b)
	}
}

// wantNone: bytes are no table's.
func wantNone(t *testing.T, what string, b []byte) {
	t.Helper()
	if u, e := Load(b); u != nil || e != api.ErrForm {
		t.Errorf("Load, %s: %x: %v %v", what, b, u, e)
	}
}

// wantSome: bytes are a table's.
func wantSome(t *testing.T, what string, b []byte) {
	t.Helper()
	u, e := Load(b)
	if e != api.OK || !bytes.Equal(u.Save(), b) {
		t.Errorf("Load, %s: %x: %v %v", what, b, u, e)
	}
}

// TestSaveKnown: P11.4, bytes that are known.
func TestSaveKnown(t *testing.T) {
	asks := func(u *Table, want string) {
		t.Helper()
		if b := u.Save(); string(b) != want {
			t.Errorf("Save: %x, want %x", b, want)
		}
		goesThere(t, u)
	}
	u := of(t, 7, 0)
	asks(u, "\x07\x00\x00\x00\x00")
	proposes(t, u, pro(300, 0, 200))
	asks(u, "\x07\x00\x01\x07\x82\x2c\x02\x00\x81\x48\x00\x00")
	u = of(t, 2, 12)
	asks(u, "\x02\x0c\x00\x00\x00")
	hears(t, u, 1, Stance{}, false)
	asks(u, "\x02\x0c\x00\x00\x01")
	proposes(t, u, pro(5, 1))
	asks(u, "\x02\x0c\x01\x02\x05\x01\x01\x00\x00")
	hears(t, u, 2, pro(6), true)
	asks(u, "\x02\x0c\x02\x02\x05\x01\x01\x0c\x06\x00\x00\x00")
	proposes(t, u, pro(4, 0, 3))
	asks(u, "\x02\x0c\x02\x02\x05\x01\x01\x0c\x06\x00\x02\x04\x02\x00\x03\x00")
}

// TestGoesOn: P11.4, a loaded table goes on as the one that was saved.
func TestGoesOn(t *testing.T) {
	r := rand.New(rand.NewSource(13))
	for range 1500 {
		u, m := anyHomes(t, r)
		for range r.Intn(30) {
			randomly(t, r, u, m)
		}
		x, e := Load(u.Save())
		if e != api.OK {
			t.Fatalf("Load(%x): %v", u.Save(), e)
		}
		for range 20 {
			randomly(t, r, x, m)
			m.agrees(t, x)
		}
	}
}

// TestCut: P11.4 and P2, cut anywhere, or longer, it is nothing; the bytes are not changed.
func TestCut(t *testing.T) {
	r := rand.New(rand.NewSource(14))
	for range 200 {
		u, m := anyHomes(t, r)
		for range r.Intn(40) {
			randomly(t, r, u, m)
		}
		b := u.Save()
		was := slices.Clone(b)
		for n := range b {
			wantNone(t, "cut", b[:n])
		}
		wantNone(t, "longer", append(slices.Clone(b), 0))
		wantNone(t, "twice", slices.Repeat(b, 2))
		if !bytes.Equal(b, was) {
			t.Errorf("the bytes are changed: %x", b)
		}
	}
	wantNone(t, "nil", nil)
}

// TestLoadHomes: P11.4, the homes of a table, and of its cuts.
func TestLoadHomes(t *testing.T) {
	for own := range uint64(15) {
		for other := range uint64(15) {
			b := raw(own, other, none, none)
			if own >= 1 && own <= 12 && other <= 12 && own != other {
				wantSome(t, "homes", b)
			} else {
				wantNone(t, "homes", b)
			}
		}
	}
	wantNone(t, "homes", raw(1<<32+1, 2, none, none))
	wantNone(t, "homes", raw(1, 1<<32+2, none, none))
	for home := range 15 {
		alone, two := raw(3, 0, none, none, cut(home, 1, 1)), raw(3, 5, none, none, cut(home, 1, 1))
		switch home {
		case 3:
			wantSome(t, "its own cut", alone)
			wantSome(t, "its own cut", two)
		case 5:
			wantNone(t, "a cut of no home", alone)
			wantSome(t, "the other one's cut", two)
		default:
			wantNone(t, "a cut of no home", alone)
			wantNone(t, "a cut of no home", two)
		}
	}
	wantNone(t, "a cut of no home", raw(3, 5, none, none, cut(1<<32+3, 1, 1)))
}

// TestLoadCuts: P11.4, the cuts of a table.
func TestLoadCuts(t *testing.T) {
	bad, n := wrong()
	for _, home := range []int{1, 2} {
		wantSome(t, "one cut", raw(1, 2, none, none, cut(home, api.MaxTime, api.MaxCount)))
		for _, s := range bad[:n] {
			wantNone(t, "a cut that may not be", raw(1, 2, none, none, Cut{home, s.Time, s.Cut}))
			wantNone(t, "a cut that may not be", raw(1, 2, none, none, cut(1, 1, 1), Cut{home, s.Time, s.Cut}))
		}
	}
	for _, v := range [][]uint32{{2}, {1, 1}, {0, 2}, {9}} { // it may propose none of these, but hear all
		wantNone(t, "its own cut, that does not go on", raw(1, 2, none, none, cut(2, 1, 2, 1), cut(1, 1, v...), cut(2, 1, 9, 9)))
		wantSome(t, "the other one's cut", raw(1, 2, none, none, cut(2, 1, 2, 1), cut(2, 1, v...), cut(2, 1, 9, 9)))
	}
	wantNone(t, "its own cut, the last one again", raw(1, 2, none, none, cut(2, 1, 2, 1), cut(1, 1, 2, 1)))
	wantNone(t, "its own cut, of noughts", raw(1, 2, none, none, cut(1, 1)))
	wantNone(t, "its own cut, of noughts", raw(1, 0, none, none, cut(1, 1)))
	wantSome(t, "the other one's cut, of noughts", raw(1, 2, none, none, cut(2, 1)))
	for _, home := range []int{1, 2} {
		var all []Cut
		for n := uint32(1); n <= api.MaxCuts; n++ {
			all = append(all, cut(home, 1, n))
		}
		wantSome(t, "as many cuts as may be", raw(1, 2, none, none, all...))
		for _, s := range []*Stance{vows, {Has: true, Time: 1, Cut: api.Vector{99}}} {
			wantNone(t, "a stance behind all cuts", raw(1, 2, s, none, all...))
			wantNone(t, "a stance behind all cuts", raw(1, 2, none, s, all...))
		}
		wantNone(t, "a cut too many", raw(1, 2, none, none, append(all, cut(home, 1, 99))...))
	}
	wantNone(t, "as many cuts as no list has", []byte("\x01\x02\x81\xff\xff\xff\xff\xff\xff\xff\xff\x7f"))
	wantNone(t, "a digit of nought ahead", []byte("\x80\x01\x02\x00\x00\x00"))
}

// TestLoadStances: P11.4, the stances of a table: just those that are left there, and do not decide the round.
func TestLoadStances(t *testing.T) {
	for _, mine := range []*Stance{none, vows, offers} {
		for _, his := range []*Stance{none, vows, offers} {
			for _, all := range [][]Cut{nil, {cut(2, 1, 5)}} {
				b := raw(1, 2, mine, his, all...)
				if mine == none && his != offers || mine == offers && his == none {
					wantSome(t, "stances", b)
				} else {
					wantNone(t, "stances that do not stay", b)
				}
			}
			if mine != none || his != none {
				wantNone(t, "stances of one home alone", raw(1, 0, mine, his))
			}
		}
	}
	bad, n := wrong()
	for _, s := range bad[:n] {
		wantNone(t, "a stance that may not be", raw(1, 2, &s, none))
		wantNone(t, "a stance that may not be", raw(1, 2, none, &s))
	}
	for _, s := range []Stance{pro(1), pro(1, 5), pro(1, 4), pro(1, 0, 9)} {
		wantNone(t, "its own stance, that does not go on", raw(1, 2, &s, none, cut(2, 1, 5)))
	}
	wantSome(t, "its own stance", raw(1, 2, &Stance{Has: true, Time: 1, Cut: api.Vector{5, 1}}, none, cut(2, 1, 5)))
	wantNone(t, "no kind of a stance", []byte("\x01\x02\x00\x03\x00"))
	wantNone(t, "no kind of a stance", []byte("\x01\x02\x00\x00\x03"))
}

// TestOneWay: P11.4 and P2, whatever is loaded, saved again, is the same bytes.
func TestOneWay(t *testing.T) {
	r := rand.New(rand.NewSource(15))
	read := 0
	var known [][]byte
	for range 300 {
		u, m := anyHomes(t, r)
		for range r.Intn(25) {
			randomly(t, r, u, m)
		}
		known = append(known, u.Save())
	}
	for range 200000 {
		b := slices.Clone(known[r.Intn(len(known))]) // some bytes of it turned
		for range 1 + r.Intn(3) {
			b[r.Intn(len(b))] = []byte{0, 1, 2, 3, 12, 128, byte(r.Intn(256))}[r.Intn(7)]
		}
		u, e := Load(b)
		if e != api.OK {
			if u != nil || e != api.ErrForm {
				t.Fatalf("Load(%x): %v %v", b, u, e)
			}
			continue
		}
		read++
		if again := u.Save(); !bytes.Equal(again, b) {
			t.Fatalf("%x, saved again: %x", b, again)
		}
	}
	if read < 3000 {
		t.Errorf("just %d are read", read)
	}
}

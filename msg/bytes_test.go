package msg

import (
	"bytes"
	"math"
	"math/rand"
	"slices"
	"testing"

	"trug/api"
	"trug/cuts"
	"trug/label"
	"trug/link"
	"trug/op"
	"trug/wire"
)

// raw is the bytes that the document gives a message.
func raw(m Msg) []byte {
	w := wire.New().Num(uint64(m.Kind))
	switch m.Kind {
	case 1:
		label.Put(w, m.Label)
	case 2, 3:
		op.Put(w, m.Event)
	case 4, 6, 7, 8, 9:
		w.Num(uint64(m.Seller))
	case 5:
		w.Num(uint64(m.Seller)).Num(uint64(m.Count))
	case 10:
		w.Num(uint64(m.Cart)).Num(uint64(m.Round))
		if m.Stance.Has {
			w.Num(1).Num(m.Stance.Time).Vector(m.Stance.Cut)
		} else {
			w.Num(0)
		}
	}
	return w.Bytes()
}

// wantNone: bytes are no message's.
func wantNone(t *testing.T, what string, b []byte) {
	t.Helper()
	if m, e := Read(b); e != api.ErrForm || !Same(m, Msg{}) {
		t.Errorf("Read, %s: %x: %v %v", what, b, m, e)
	}
}

// TestWriteKnown: P23.1, bytes that are known, the document's example among them.
func TestWriteKnown(t *testing.T) {
	l := label.Label{Time: 300, Node: 2, N: 1, Cart: 4, Seller: 5, Deps: api.Vector{7}}
	for want, m := range map[string]Msg{
		"\x04\x03":                             Ask(4, 3),
		"\x01\x82\x2c\x02\x01\x04\x05\x01\x07": Of(l),
		"\x02\x82\x2c\x02\x01\x04\x05\x01\x07\x01\x05\x04":                             Hand(op.Event{Label: l, Op: add}),
		"\x03\x82\x2c\x02\x01\x04\x05\x01\x07\x04":                                     Part(op.Event{Label: l, Op: op.Op{Kind: 4}}),
		"\x03\x82\x2c\x02\x01\x04\x05\x01\x07\x06\x05\x7f\xff\xff\xff\xff\xff\xff\xff": Part(op.Event{Label: l, Op: op.Op{Kind: 6, Sku: 5, Price: nought}}),
		"\x05\x0c\x81\x48": End(12, 200),
		"\x05\x01\x00":     End(1, 0),
		"\x06\x0c":         Ask(6, 12),
		"\x07\x01":         Ask(7, 1),
		"\x08\x02":         Ask(8, 2),
		"\x09\x0b":         Ask(9, 11),
		"\x0a\x0c\x15\x00": Say(12, 21, cuts.Stance{}),
		"\x0a\x01\x02\x01\x82\x2c\x03\x01\x00\x07": Say(1, 2, cuts.Stance{Has: true, Time: 300, Cut: api.Vector{1, 0, 7}}),
		"\x0a\x01\x02\x01\x01\x00":                 Say(1, 2, cuts.Stance{Has: true, Time: 1}),
	} {
		if b, e := Write(m); string(b) != want || e != api.OK {
			t.Errorf("Write(%v): %x %v, not %x", m, b, e, want)
		}
		if x, e := Read([]byte(want)); !Same(x, m) || e != api.OK {
			t.Errorf("Read(%x): %v %v, not %v", want, x, e, m)
		}
	}
}

// TestThere: P23.1, P23.2 and P2, messages go there and back; cut anywhere, or longer, they are none; each is a text of a link.
func TestThere(t *testing.T) {
	for _, m := range some() {
		b, e := Write(m)
		if e != api.OK || !bytes.Equal(b, raw(m)) {
			t.Fatalf("Write(%v): %x %v, not %x", m, b, e, raw(m))
		}
		x, e := Read(b)
		if e != api.OK || !Same(x, m) {
			t.Errorf("Read(%x): %v %v, not %v", b, x, e, m)
		}
		for n := range b {
			wantNone(t, "cut", b[:n:n])
		}
		wantNone(t, "longer", append(slices.Clone(b), 0))
		wantNone(t, "twice", append(slices.Clone(b), b...))
		if _, e := link.New().Send(b); e != api.OK {
			t.Errorf("%x is no text: %v", b, e)
		}
	}
	wantNone(t, "nil", nil)
}

// TestWriteWrong: P23.1, what may not be has no bytes, and what would be its bytes are no message's.
func TestWriteWrong(t *testing.T) {
	for what, m := range wrong() {
		if b, e := Write(m); len(b) != 0 || e != api.ErrForm {
			t.Errorf("Write, %s: %x %v", what, b, e)
		}
		if m.Kind == 10 && !m.Stance.Has && m.Stance != (cuts.Stance{}) || m.Event.Op.Kind == 4 {
			continue // its bytes do not tell what is wrong with it: a promise's Time or cut, a clear's Price
		}
		wantNone(t, what, raw(m))
	}
}

// TestReadWrong: P23.1, bytes that are near to a message's.
func TestReadWrong(t *testing.T) {
	for what, b := range map[string]string{
		"the kind 0":                     "\x00",
		"the kind 0 of a seller":         "\x00\x03",
		"the kind 11":                    "\x0b\x03",
		"the kind 12":                    "\x0c\x03",
		"a great kind":                   "\x90\x80\x80\x80\x04\x03",
		"a digit of nought, kind":        "\x80\x04\x03",
		"a digit of nought, seller":      "\x04\x80\x03",
		"a digit of nought, count":       "\x05\x03\x80\x01",
		"a digit of nought, round":       "\x0a\x01\x80\x01\x00",
		"a digit of nought, promise":     "\x0a\x01\x01\x80\x00",
		"the seller 0":                   "\x04\x00",
		"the seller 13":                  "\x04\x0d",
		"a count of 201":                 "\x05\x03\x81\x49",
		"a count where none is":          "\x04\x03\x00",
		"no count where one is":          "\x05\x03",
		"the cart 0":                     "\x0a\x00\x01\x00",
		"the cart 13":                    "\x0a\x0d\x01\x00",
		"the round 0":                    "\x0a\x01\x00\x00",
		"the round 22":                   "\x0a\x01\x16\x00",
		"neither promise nor proposal":   "\x0a\x01\x01\x02\x05\x00",
		"a promise with a Time":          "\x0a\x01\x01\x00\x05",
		"a proposal of the Time 0":       "\x0a\x01\x01\x01\x00\x00",
		"a proposal, late":               "\x0a\x01\x01\x01\xa0\x80\x80\x80\x80\x01\x00",
		"a cut with a nought at its end": "\x0a\x01\x01\x01\x05\x02\x01\x00",
		"a cut of 13 numbers":            "\x0a\x01\x01\x01\x05\x0d\x01\x01\x01\x01\x01\x01\x01\x01\x01\x01\x01\x01\x01",
		"a cut of 2^20 + 1":              "\x0a\x01\x01\x01\x05\x01\xc0\x80\x01",
		"a label of the Time 0":          "\x01\x00\x02\x01\x04\x05\x00",
		"an event of the seller 0":       "\x02\x05\x02\x01\x04\x00\x00\x04",
		"an event without an op":         "\x02\x05\x02\x01\x04\x05\x00",
		"an event as a label":            "\x01\x05\x02\x01\x04\x05\x00\x04",
	} {
		wantNone(t, what, []byte(b))
	}
	for want, m := range map[string]Msg{ // and beside these, such as are one's
		"\x0a\x01\x01\x01\xa0\x80\x80\x80\x80\x00\x00": Say(1, 1, cuts.Stance{Has: true, Time: api.MaxTime}),
		"\x0a\x01\x15\x01\x05\x01\xc0\x80\x00":         Say(1, 21, cuts.Stance{Has: true, Time: 5, Cut: api.Vector{api.MaxCount}}),
		"\x01\x05\x02\x01\x04\x00\x00":                 Of(label.Label{Time: 5, Node: 2, N: 1, Cart: 4}),
	} {
		if x, e := Read([]byte(want)); e != api.OK || !Same(x, m) {
			t.Errorf("Read(%x): %v %v, not %v", want, x, e, m)
		}
	}
}

// TestTurned: P23.1, P23.2 and P2, whatever is read may be, and is written again as the same.
func TestTurned(t *testing.T) {
	r := rand.New(rand.NewSource(1))
	list := some()
	whole := 0
	for range 300000 {
		b := raw(list[r.Intn(len(list))])
		for range r.Intn(3) {
			b[r.Intn(len(b))] = []byte{0, 1, 2, 4, 10, 12, 13, 128, byte(r.Intn(256))}[r.Intn(9)]
		}
		if r.Intn(8) == 0 {
			b = append(b, byte(r.Intn(3)))
		}
		m, e := Read(b)
		if e != api.OK {
			wantNone(t, "turned", b)
			continue
		}
		whole++
		if again, e := Write(m); !Right(m) || e != api.OK || !bytes.Equal(again, b) {
			t.Fatalf("%x, written again: %x %v", b, again, e)
		}
	}
	if whole < 50000 {
		t.Errorf("%d: of little worth", whole)
	}
}

// anyNumber is a number of which one may think.
func anyNumber(r *rand.Rand) int {
	return []int{0, 1, 2, 3, 5, 12, 13, 20, 21, 22, 200, 201, -1, math.MinInt, math.MaxInt, 1 << 32, 1<<32 + 1}[r.Intn(17)]
}

// TestAny: P1 and P23.1, of hand-made messages just those are written that may be, and read as they were.
func TestAny(t *testing.T) {
	r := rand.New(rand.NewSource(2))
	list := some()
	right := 0
	for range 300000 {
		a, b := list[r.Intn(len(list))], list[r.Intn(len(list))]
		m := Msg{Kind: a.Kind, Seller: a.Seller, Count: a.Count, Cart: a.Cart, Round: a.Round, Label: b.Label, Event: a.Event, Stance: b.Stance}
		if r.Intn(2) == 0 {
			m = a
		}
		*[]*int{&m.Kind, &m.Seller, &m.Count, &m.Cart, &m.Round, new(int)}[r.Intn(6)] = anyNumber(r)
		w, e := Write(m)
		if !Right(m) {
			if len(w) != 0 || e != api.ErrForm {
				t.Fatalf("Write(%v): %x %v", m, w, e)
			}
			continue
		}
		right++
		if x, f := Read(w); e != api.OK || f != api.OK || !Same(x, m) || !bytes.Equal(w, raw(m)) {
			t.Fatalf("Write(%v): %x %v, read as %v %v", m, w, e, x, f)
		}
	}
	if right < 20000 {
		t.Errorf("%d: of little worth", right)
	}
}

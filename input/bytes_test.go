package input

import (
	"bytes"
	"math"
	"math/rand"
	"slices"
	"testing"

	"trug/api"
	"trug/op"
	"trug/packet"
	"trug/wire"
)

// rawPacket is the bytes of a packet, or something near to them, if it may not be.
func rawPacket(p packet.Packet) []byte {
	b, e := packet.Write(p)
	if e != api.OK {
		return wire.New().Num(0).Num(uint64(p.From)).Num(uint64(p.To)).Num(p.Seq).Text(p.Data).Num(0).Bytes()
	}
	return b
}

// raw is the bytes that the document gives an input.
func raw(x Input) []byte {
	w := wire.New().Num(uint64(x.Kind))
	switch x.Kind {
	case 1:
		w.Num(uint64(x.Cart)).Num(uint64(x.Seller)).Vector(x.Seen).Num(x.Time)
		op.PutOp(w, x.Op)
	case 2, 4:
		w.Num(uint64(x.Seller))
	case 3:
		w.Num(uint64(x.Seller)).Num(uint64(x.Node))
	case 5:
		w.Num(uint64(x.Cart)).Vector(x.Seen).Num(x.Time)
	case 6:
		w.Text(rawPacket(x.Packet))
	}
	return w.Bytes()
}

// wantNone: bytes are no input's.
func wantNone(t *testing.T, what string, b []byte) {
	t.Helper()
	if x, e := Read(b); e != api.ErrForm || !Same(x, Input{}) || x.Packet.Data != nil {
		t.Errorf("Read, %s: %.60x: %v %v", what, b, x, e)
	}
}

// TestWriteKnown: P26.1, bytes that are known, the document's example among them.
func TestWriteKnown(t *testing.T) {
	ack := packet.Packet{Ack: true, From: 1, To: 2, Seq: 3}
	b, _ := packet.Write(ack)
	for want, x := range map[string]Input{
		"\x02\x03":                     {Kind: 2, Seller: 3},
		"\x04\x0c":                     {Kind: 4, Seller: 12},
		"\x03\x03\x07":                 {Kind: 3, Seller: 3, Node: 7},
		"\x05\x04\x02\x00\x07\x82\x2c": {Kind: 5, Cart: 4, Seen: api.Vector{0, 7}, Time: 300},
		"\x05\x0c\x00\x00":             {Kind: 5, Cart: 12},
		"\x01\x04\x05\x03\x07\x00\x02\x82\x2c\x01\x05\x04":             ofOrder(add),
		"\x01\x04\x05\x03\x07\x00\x02\x82\x2c\x04":                     ofOrder(op.Op{Kind: 4}),
		"\x01\x01\x02\x00\x00\x06\x05\x7f\xff\xff\xff\xff\xff\xff\xff": {Kind: 1, Cart: 1, Seller: 2, Op: op.Op{Kind: 6, Sku: 5, Price: nought}},
		"\x06" + string(rune(len(b))) + string(b):                      {Kind: 6, Packet: ack},
	} {
		if b, e := Write(x); string(b) != want || e != api.OK {
			t.Errorf("Write(%v): %x %v, not %x", x, b, e, want)
		}
		if y, e := Read([]byte(want)); !Same(x, y) || e != api.OK {
			t.Errorf("Read(%x): %v %v, not %v", want, y, e, x)
		}
	}
}

// TestThere: P26.1, P26.2 and P2, inputs go there and back; cut anywhere, or longer, they are none.
func TestThere(t *testing.T) {
	for _, x := range some() {
		b, e := Write(x)
		if e != api.OK || !bytes.Equal(b, raw(x)) {
			t.Fatalf("Write(%v): %x %v, not %x", x, b, e, raw(x))
		}
		y, e := Read(b)
		if e != api.OK || !Same(x, y) {
			t.Errorf("Read(%x): %v %v, not %v", b, y, e, x)
		}
		for n := range b {
			wantNone(t, "cut", b[:n:n])
		}
		wantNone(t, "longer", append(slices.Clone(b), 0))
		wantNone(t, "twice", append(slices.Clone(b), b...))
	}
	wantNone(t, "nil", nil)
}

// TestGreat: P26.1, at most MaxRecord bytes: of a packet, whose own bytes may be more.
func TestGreat(t *testing.T) {
	for n := 1770; n <= 1800; n++ {
		x := Input{Kind: 6, Packet: data(n)}
		whole := raw(x)
		b, e := Write(x)
		if len(whole) > 1800 {
			if len(b) != 0 || e != api.ErrForm {
				t.Errorf("Write, %d bytes: %d %v", len(whole), len(b), e)
			}
			wantNone(t, "too long", whole)
			continue
		}
		if y, f := Read(b); e != api.OK || f != api.OK || !bytes.Equal(b, whole) || !Same(x, y) {
			t.Errorf("Write, %d bytes: %d %v, %v", len(whole), len(b), e, f)
		}
	}
	if len(raw(Input{Kind: 6, Packet: data(1770)})) > 1800 || len(raw(Input{Kind: 6, Packet: data(1800)})) <= 1800 {
		t.Errorf("of little worth")
	}
	var found [2]bool // just so many, and one more
	for n := 1770; n <= 1800; n++ {
		if i := len(raw(Input{Kind: 6, Packet: data(n)})) - 1800; i == 0 || i == 1 {
			found[i] = true
		}
	}
	if found != [2]bool{true, true} {
		t.Errorf("of little worth: %v", found)
	}
	wantNone(t, "much", make([]byte, 1<<20))
}

// TestWriteWrong: P26.1, what may not be has no bytes, and what would be its bytes are no input's.
func TestWriteWrong(t *testing.T) {
	for what, x := range wrong() {
		if b, e := Write(x); len(b) != 0 || e != api.ErrForm {
			t.Errorf("Write, %s: %x %v", what, b, e)
		}
		if x.Op.Kind == 4 || x.Packet.Ack {
			continue // its bytes do not tell what is wrong with it: a clear's Price, an Ack's Data
		}
		wantNone(t, what, raw(x))
	}
}

// TestReadWrong: P26.1, bytes that are near to an input's.
func TestReadWrong(t *testing.T) {
	p, _ := packet.Write(data(1))
	spoilt := slices.Clone(p)
	spoilt[4] ^= 1 // how many bytes of Data, or what: the sum is another one
	unsummed := slices.Clone(p)
	unsummed[len(unsummed)-1] ^= 1
	of := func(b []byte) string { return "\x06" + string(rune(len(b))) + string(b) }
	for what, b := range map[string]string{
		"the kind 0":                    "\x00",
		"the kind 0 of a seller":        "\x00\x03",
		"the kind 7":                    "\x07",
		"the kind 7 of a seller":        "\x07\x03",
		"a great kind":                  "\x90\x80\x80\x80\x02\x03",
		"a digit of nought, kind":       "\x80\x02\x03",
		"a digit of nought, seller":     "\x02\x80\x03",
		"a digit of nought, node":       "\x03\x03\x80\x01",
		"a digit of nought, cart":       "\x05\x80\x01\x00\x00",
		"a digit of nought, Time":       "\x05\x01\x00\x80\x01",
		"the seller 0":                  "\x02\x00",
		"the seller 13":                 "\x04\x0d",
		"the node 0":                    "\x03\x03\x00",
		"the node 13":                   "\x03\x03\x0d",
		"no node where one is":          "\x03\x03",
		"a node where none is":          "\x02\x03\x01",
		"the cart 0":                    "\x05\x00\x00\x00",
		"the cart 13":                   "\x05\x0d\x00\x00",
		"a checkout with a seller":      "\x05\x01\x01\x00\x00",
		"it saw a nought at the end":    "\x05\x01\x01\x00\x00",
		"it saw 13 nodes":               "\x05\x01\x0d\x01\x01\x01\x01\x01\x01\x01\x01\x01\x01\x01\x01\x01\x00",
		"it saw 2^20 + 1":               "\x05\x01\x01\xc0\x80\x01\x00",
		"late":                          "\x05\x01\x00\xa0\x80\x80\x80\x80\x01",
		"an order, late":                "\x01\x01\x01\x00\xa0\x80\x80\x80\x80\x01\x04",
		"an order without an op":        "\x01\x01\x01\x00\x00",
		"an order of no op":             "\x01\x01\x01\x00\x00\x00",
		"an order of the op 7":          "\x01\x01\x01\x00\x00\x07\x01",
		"an order of a clear of a sku":  "\x01\x01\x01\x00\x00\x04\x01",
		"no packet":                     "\x06\x00",
		"a packet whose text is cut":    of(p)[:len(p)+1],
		"a packet whose text is short":  "\x06" + string(rune(len(p)-1)) + string(p),
		"a packet whose text is long":   "\x06" + string(rune(len(p)+1)) + string(p) + "\x00",
		"a packet with something more":  of(p) + "\x00",
		"a packet that is spoilt":       of(spoilt),
		"a packet whose sum is wrong":   of(unsummed),
		"a packet with a great text":    "\x06\x8e\x09" + string(make([]byte, 1801)),
		"a packet of a text of 2^63":    "\x06\x81\x80\x80\x80\x80\x80\x80\x80\x80\x00",
		"a packet that is not a text":   "\x06" + string(p),
		"a digit of nought, the text's": "\x06\x80" + of(p)[1:],
	} {
		wantNone(t, what, []byte(b))
	}
	for want, x := range map[string]Input{ // and beside these, such as are one's
		"\x05\x01\x01\xc0\x80\x00\x00":                 {Kind: 5, Cart: 1, Seen: api.Vector{api.MaxCount}},
		"\x05\x01\x00\xa0\x80\x80\x80\x80\x00":         {Kind: 5, Cart: 1, Time: api.MaxTime},
		"\x01\x01\x01\x00\xa0\x80\x80\x80\x80\x00\x04": {Kind: 1, Cart: 1, Seller: 1, Time: api.MaxTime, Op: op.Op{Kind: 4}},
		of(p): {Kind: 6, Packet: data(1)},
	} {
		if y, e := Read([]byte(want)); e != api.OK || !Same(x, y) {
			t.Errorf("Read(%x): %v %v, not %v", want, y, e, x)
		}
	}
}

// TestNew: the rule 5, what is read is new memory, and what is handed in stays.
func TestNew(t *testing.T) {
	x := Input{Kind: 6, Packet: data(9)}
	b, e := Write(x)
	y, f := Read(b)
	if e != api.OK || f != api.OK {
		t.Fatalf("%v %v", e, f)
	}
	b[8] ^= 1
	y.Packet.Data[0] ^= 1
	if !Same(x, Input{Kind: 6, Packet: data(9)}) {
		t.Errorf("%v", x)
	}
	if z, e := Read(raw(x)); e != api.OK || !Same(x, z) || Same(x, y) {
		t.Errorf("%v %v", z, e)
	}
}

// TestTurned: P26.1, P26.2 and P2, whatever is read may be, and is written again as the same.
func TestTurned(t *testing.T) {
	r := rand.New(rand.NewSource(1))
	var list []Input
	for _, x := range some() {
		if x.Kind != 6 || len(x.Packet.Data) < 10 {
			list = append(list, x)
		}
	}
	whole := 0
	for range 300000 {
		b := raw(list[r.Intn(len(list))])
		for range r.Intn(3) {
			b[r.Intn(len(b))] = []byte{0, 1, 2, 4, 6, 12, 13, 128, byte(r.Intn(256))}[r.Intn(9)]
		}
		if r.Intn(8) == 0 {
			b = append(b, byte(r.Intn(3)))
		}
		x, e := Read(b)
		if e != api.OK {
			wantNone(t, "turned", b)
			continue
		}
		whole++
		if again, e := Write(x); !Right(x) || e != api.OK || !bytes.Equal(again, b) {
			t.Fatalf("%x, written again: %x %v", b, again, e)
		}
	}
	if whole < 50000 {
		t.Errorf("%d: of little worth", whole)
	}
}

// anyNumber is a number of which one may think.
func anyNumber(r *rand.Rand) int {
	return []int{0, 1, 2, 3, 4, 5, 6, 7, 12, 13, -1, math.MinInt, math.MaxInt, 1 << 32, 1<<32 + 1}[r.Intn(15)]
}

// TestAny: P1 and P26.1, of hand-made inputs just those are written that may be, and read as they were.
func TestAny(t *testing.T) {
	r := rand.New(rand.NewSource(2))
	list := some()
	for _, x := range wrong() {
		list = append(list, x)
	}
	slices.SortFunc(list, func(a, b Input) int { return bytes.Compare(raw(a), raw(b)) })
	right := 0
	for range 200000 {
		a, b := list[r.Intn(len(list))], list[r.Intn(len(list))]
		x := a
		switch r.Intn(4) {
		case 0:
			x.Packet = b.Packet
		case 1:
			x.Op, x.Seen = b.Op, b.Seen
		case 2:
			*[]*int{&x.Kind, &x.Cart, &x.Seller, &x.Node}[r.Intn(4)] = anyNumber(r)
		}
		w, e := Write(x)
		if !Right(x) {
			if len(w) != 0 || e != api.ErrForm {
				t.Fatalf("Write(%v): %x %v", x, w, e)
			}
			continue
		}
		right++
		if y, f := Read(w); e != api.OK || f != api.OK || !Same(x, y) || !bytes.Equal(w, raw(x)) {
			t.Fatalf("Write(%v): %x %v, read as %v %v", x, w, e, y, f)
		}
	}
	if right < 10000 {
		t.Errorf("%d: of little worth", right)
	}
}

package op

import (
	"bytes"
	"math"
	"math/rand"
	"slices"
	"testing"

	"trug/api"
	"trug/label"
	"trug/wire"
)

// rawOp is the bytes that the document gives an op, whether it may be or not.
func rawOp(o Op) []byte {
	w := wire.New().Num(uint64(o.Kind))
	if o.Kind != 4 {
		w.Num(uint64(o.Sku))
	}
	switch o.Kind {
	case 1, 2, 5:
		w.Int(o.Qty)
	case 6:
		w.Float(o.Price)
	}
	return w.Bytes()
}

// raw is the bytes that the document gives an event, whether it may be or not.
func raw(x Event) []byte {
	w := wire.New()
	label.Put(w, x.Label)
	return append(w.Bytes(), rawOp(x.Op)...)
}

// TestPutKnown: P6.1, bytes that are known, behind the others.
func TestPutKnown(t *testing.T) {
	for _, c := range []struct {
		o    Op
		want string
	}{
		{Op{Kind: 1, Sku: 5, Qty: 2}, "\x01\x05\x04"},
		{Op{Kind: 1, Sku: 40, Qty: 1000}, "\x01\x28\x8f\x50"},
		{Op{Kind: 2, Sku: 1, Qty: -1}, "\x02\x01\x01"},
		{Op{Kind: 2, Sku: 1, Qty: -1000}, "\x02\x01\x8f\x4f"},
		{Op{Kind: 3, Sku: 9}, "\x03\x09"},
		{Op{Kind: 4}, "\x04"},
		{Op{Kind: 5, Sku: 7, Qty: 3}, "\x05\x07\x06"},
		{Op{Kind: 6, Sku: 7, Price: 1}, "\x06\x07\xbf\xf0\x00\x00\x00\x00\x00\x00"},
		{Op{Kind: 6, Sku: 7, Price: math.Copysign(0, -1)}, "\x06\x07\x7f\xff\xff\xff\xff\xff\xff\xff"},
	} {
		w := wire.New().Num(300)
		PutOp(w, c.o)
		Put(w, Event{labels()[0], c.o})
		if got := string(w.Bytes()); got != "\x82\x2c"+c.want+"\x03\x02\x01\x01\x04\x00"+c.want {
			t.Errorf("Put of %v: %x", c.o, got)
		}
	}
}

// TestWrite: P6.1, bytes of events that may be, and of these alone.
func TestWrite(t *testing.T) {
	for _, x := range events() {
		if b, e := Write(x); e != api.OK || !bytes.Equal(b, raw(x)) {
			t.Errorf("Write(%v): %x %v", x, b, e)
		}
	}
	for _, x := range noEvents() {
		if b, e := Write(x); e != api.ErrForm || len(b) != 0 {
			t.Errorf("Write(%v): %x %v", x, b, e)
		}
	}
}

// wantNone: bytes are no event's.
func wantNone(t *testing.T, what string, b []byte) {
	t.Helper()
	if x, e := Read(b); e != api.ErrForm || !Same(x, Event{}) {
		t.Errorf("Read, %s: %x: %v %v", what, b, x, e)
	}
}

// TestRead: P6.2 and P2, there and back; cut anywhere, or longer, it is nothing.
func TestRead(t *testing.T) {
	for _, x := range events() {
		b, _ := Write(x)
		old := slices.Clone(b)
		if got, e := Read(b); e != api.OK || !Same(got, x) {
			t.Errorf("Read(%x): %v %v", b, got, e)
		}
		for n := range b {
			wantNone(t, "cut", b[:n])
		}
		wantNone(t, "longer", append(b[:len(b):len(b)], 0))
		wantNone(t, "twice", append(b[:len(b):len(b)], b...))
		if !bytes.Equal(b, old) {
			t.Errorf("the bytes are changed: %x", b)
		}
	}
	wantNone(t, "nil", nil)
}

// TestReadNone: P6.1, the bytes of events that may not be: those that tell which.
func TestReadNone(t *testing.T) {
	told := 0
	for _, x := range noEvents() {
		plain := x
		plain.Op = parts(x.Op) // what an op may not have does not stand in its bytes
		if !Same(plain, x) {
			continue
		}
		told++
		wantNone(t, "of no event", raw(x))
	}
	if told < 50 {
		t.Errorf("just %d tell", told)
	}
	for _, o := range []string{"\x01\x05\x00", "\x01\x05\x01", "\x01\x29\x02", "\x02\x05\x00", "\x02\x05\x8f\x51", "\x02\x05\x8f\x52", "\x03\x00", "\x03\x05\x00",
		"\x04\x00", "\x04\x05", "\x05\x05\x08", "\x05\x05\x00", "\x00", "\x00\x05", "\x00\x05\x02", "\x07", "\x07\x05", "\x07\x05\x02", "\x81\x05\x04", "\x01\x80\x05\x04", "\x01\x05\x80\x04"} {
		wantNone(t, "of no op", []byte("\x03\x02\x01\x01\x04\x00"+o))
	}
	for i := range 3 {
		for _, more := range []uint64{1 << 32, 1 << 62, 1 << 63} {
			n := []uint64{1, 5, 4}
			n[i] += more
			wantNone(t, "wide", append([]byte("\x03\x02\x01\x01\x04\x00"), wire.New().Num(n[0]).Num(n[1]).Num(n[2]).Bytes()...))
		}
	}
	wantNone(t, "with a checkout's label", []byte("\x03\x02\x01\x01\x00\x00\x01\x05\x04"))
}

// TestOneWay: P6.2 and P2, whatever is read, written again, is the same bytes.
func TestOneWay(t *testing.T) {
	r := rand.New(rand.NewSource(2))
	read := make([]int, 7)
	for range 300000 {
		b := []byte("\x03\x02\x01\x01\x04\x00")
		for range 1 + r.Intn(11) {
			b = append(b, []byte{0, 1, 2, 3, 4, 5, 6, 7, 40, 41, 128, 129, byte(r.Intn(256))}[r.Intn(13)])
		}
		if r.Intn(2) == 0 {
			b[r.Intn(len(b))] = byte(r.Intn(3))
		}
		x, e := Read(b)
		if e != api.OK {
			continue
		}
		read[x.Op.Kind]++
		if again, e := Write(x); e != api.OK || !bytes.Equal(again, b) || !Right(x) {
			t.Fatalf("%x, written again: %x %v", b, again, e)
		}
	}
	for kind, n := range read[1:] {
		if n < 50 {
			t.Errorf("just %d of the kind %d are read", n, kind+1)
		}
	}
}

// TestGet: P6.1, the op, the event that stands here, and what is behind it.
func TestGet(t *testing.T) {
	for _, x := range events() {
		b := append(wire.New().Num(300).Bytes(), append(raw(x), append(rawOp(x.Op), 7)...)...)
		e := wire.Read(b, func(r *wire.Reader) {
			if r.Num() != 300 || !Same(Get(r), x) || !Same(Event{x.Label, GetOp(r)}, x) || r.Num() != 7 {
				t.Errorf("Get of %x: another one", b)
			}
		})
		if e != api.OK {
			t.Errorf("Get of %x: %v", b, e)
		}
	}
}

// wantFault: what Read of wire tells of an op, or an event, and behind a fault nothing comes back.
func wantFault(t *testing.T, b []byte, get func(r *wire.Reader), want api.Errno) {
	t.Helper()
	back := false
	if e := wire.Read(b, func(r *wire.Reader) { get(r); back = true }); e != want || back != (want == api.ErrLong) {
		t.Errorf("a fault of %x: %v, not %v; back: %v", b, e, want, back)
	}
}

func getOp(r *wire.Reader) { GetOp(r) }
func get(r *wire.Reader)   { Get(r) }

// TestGetFaults: P6.1, the faults, in the order in which an op's parts are read.
func TestGetFaults(t *testing.T) {
	for _, x := range events() {
		for n := range raw(x) {
			wantFault(t, raw(x)[:n], get, api.ErrShort)
		}
		for n := range rawOp(x.Op) {
			wantFault(t, rawOp(x.Op)[:n], getOp, api.ErrShort)
		}
		wantFault(t, append(raw(x), 0), get, api.ErrLong)
		wantFault(t, append(rawOp(x.Op), 0), getOp, api.ErrLong)
	}
	for _, c := range []struct {
		b    string
		want api.Errno
	}{
		{"\x07", api.ErrForm},         // no kind: ahead of what is missing
		{"\x00", api.ErrShort},        // of any kind but 4 a sku is read
		{"\x00\x05", api.ErrForm},     // and no more, of this one
		{"\x00\x05\x02", api.ErrForm}, // it is asked ahead of what is behind it
		{"\x04", api.OK},
		{"\x04\x05", api.ErrLong}, // of the kind 4 nothing is read
		{"\x03\x00", api.ErrForm},
		{"\x03\x05\x00", api.ErrLong}, // of the kind 3 no quantity is read
		{"\x01\x00", api.ErrShort},    // it is asked behind all that is read
		{"\x01\x29", api.ErrForm},     // no sku: ahead of what is missing
		{"\x01\x05\x00", api.ErrForm},
		{"\x02\x05\x00", api.ErrForm},
		{"\x05\x05\x08", api.ErrForm},
		{"\x06\x05\x80\x00\x00\x00\x00\x00\x00", api.ErrShort},
		{"\x06\x00\x80\x00\x00\x00\x00\x00\x00\x00", api.ErrForm},
		{"\x06\x05\x80\x00\x00\x00\x00\x00\x00\x00\x00", api.ErrLong},
		{"\x81\x80\x80\x80\x80\x80\x80\x80\x80\x01\x05\x04", api.ErrForm}, // a kind that is not 1 of some bits
		{"\x01\x81\x80\x80\x80\x80\x80\x80\x80\x80\x05\x04", api.ErrForm}, // a sku that is not 5 of some bits
		{"\x01\x05\x81\x80\x80\x80\x80\x80\x80\x80\x80\x04", api.ErrForm}, // a quantity that is not 2 of some bits
		{"\x01\x05\x81\x80\x80\x80\x80\x80\x80\x80\x80\x04\x00", api.ErrForm},
	} {
		if c.want == api.OK {
			if e := wire.Read([]byte(c.b), getOp); e != api.OK {
				t.Errorf("GetOp of %x: %v", c.b, e)
			}
			continue
		}
		wantFault(t, []byte(c.b), getOp, c.want)
		wantFault(t, append([]byte("\x03\x02\x01\x01\x04\x00"), c.b...), get, c.want)
	}
	wantFault(t, []byte("\x03\x02\x01\x01\x00\x00\x01\x05\x04"), get, api.ErrForm)
	wantFault(t, []byte("\x03\x02\x02\x01\x04\x00"), get, api.ErrForm) // the label's fault is met ahead of the op
}

// TestNil: P1, writers and readers that are nil, or that no call made, and ops of any numbers.
func TestNil(t *testing.T) {
	var kept *wire.Reader
	wire.Read(raw(events()[0]), func(r *wire.Reader) { kept = r; Get(r) })
	for _, r := range []*wire.Reader{nil, {}, kept} {
		if !Same(Get(r), Event{}) || !Same(Event{Op: GetOp(r)}, Event{}) {
			t.Errorf("Get of nothing: something")
		}
	}
	for _, x := range append(noEvents(), events()...) {
		Put(nil, x)
		PutOp(nil, x.Op)
		w := &wire.Writer{}
		Put(w, x)
		PutOp(w, x.Op)
		if !bytes.Equal(w.Bytes(), append(raw(x), rawOp(x.Op)...)) {
			t.Errorf("Put(%v): %x", x, w.Bytes())
		}
	}
}

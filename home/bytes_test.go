package home

import (
	"bytes"
	"math"
	"math/rand"
	"slices"
	"testing"

	"trug/api"
	"trug/cuts"
	"trug/label"
	"trug/msg"
	"trug/packet"
	"trug/wire"
)

// load reads a home of bytes, with nothing behind them.
func load(h *Home, b []byte) api.Errno { return wire.Read(b, h.Load) }

// busy is a home to which much happened: labels that wait, cuts, an own stance, and the other home's promise.
func busy(t *testing.T) *both {
	t.Helper()
	b := begin(t, 1)
	for n := uint32(1); n <= 3; n++ {
		b.hear(4, msg.Of(at(300, 3, int(n), 2, n)), api.OK)
		b.hear(4, msg.Of(at(5, 12, 4, 7, 2*n)), api.OK)
	}
	b.checkout(3, unseen, 0, api.OK)
	b.hear(6, msg.Say(3, 1, promise), api.OK)
	b.hear(4, msg.Of(at(4, 3, 7, 12, 1)), api.OK)
	b.checkout(3, unseen, 0, api.OK)
	b.hear(10, msg.Say(2, 1, pro(299, 0, 9)), api.OK)
	b.hear(10, msg.Say(2, 2, pro(3, 1, 9)), api.OK)
	b.hear(10, msg.Say(5, 1, promise), api.OK)
	b.acked(10, 1)
	p := packet.Packet{From: 4, To: 1, Seq: 1, Data: []byte{0}}
	if _, is, e := b.h.Links().Hear(p); !is || e != api.OK {
		t.Fatalf("Hear: %v %v", is, e)
	}
	b.m.expect[4] = 2
	b.has()
	return b
}

// TestPutKnown: P25.5, bytes that are known.
func TestPutKnown(t *testing.T) {
	h, _ := start(t, 3)
	want := "\x00" + "\x03\x00"
	for cart := range 12 {
		want += "\x03" + string(rune(cart+1)) + "\x00\x00" + "\x05\x03\x00\x00\x00\x00"
	}
	if b := put(h); string(b) != want {
		t.Errorf("Put: %x, not %x", b, want)
	}
	b := begin(t, 1)
	b.hear(4, msg.Of(at(299, 3, 5, 2, 1)), api.OK)
	b.hear(4, msg.Of(at(7, 3, 6, 4, 2)), api.OK)
	b.checkout(3, unseen, 0, api.OK)
	want = "\x82\x2c" + "\x01\x01" + "\x06\x02\x01" + "\x09\x0a\x03\x01\x01\x82\x2c\x02\x00\x01" + "\x01"
	for _, cart := range []int{2, 3, 5, 6, 8, 9, 11, 12} {
		other := "\x06"
		if cart%3 == 2 {
			other = "\x0a"
		}
		if cart == 3 {
			want += "\x10\x03\x01\x02\x01\x05\x01\x07\x04\x02\x03\x06\x04\x00\x00\x00\x01"
			want += "\x0a\x01\x06\x00\x02\x82\x2c\x02\x00\x01\x00"
		} else {
			want += "\x03" + string(rune(cart)) + "\x00\x00" + "\x05\x01" + other + "\x00\x00\x00"
		}
	}
	if b := put(b.h); string(b) != want {
		t.Errorf("Put: %x, not %x", b, want)
	}
}

// TestThere: P25.5 and P2, homes go there and back, behind others, and with others behind them, and go on as they were.
func TestThere(t *testing.T) {
	b := busy(t)
	was := put(b.h)
	first, other := busy(t), begin(t, 1)
	other.hear(4, msg.Of(at(api.MaxTime, 11, 2, 9, 1)), api.OK)
	other.hear(10, msg.Say(8, 1, pro(9, 1)), api.OK)
	l, x, u := other.h.Links(), other.h.Index(11), other.h.Cuts(8)
	w := wire.New().Num(300)
	b.h.Put(w)
	begin(t, 1).h.Put(w)
	w.Text([]byte("end"))
	e := wire.Read(w.Bytes(), func(r *wire.Reader) {
		r.Must(r.Num() == 300)
		other.h.Load(r)
		first.h.Load(r)
		r.Must(string(r.Text(3)) == "end")
	})
	if e != api.OK {
		t.Fatalf("Read: %v", e)
	}
	has(t, first.h, newModel(1, othersOf(1))) // nothing is left of what it was
	has(t, other.h, b.m)
	if other.h.Links() != l || other.h.Index(11) != x || other.h.Cuts(8) != u {
		t.Errorf("others are handed out than ahead of Load")
	}
	other.m = b.m
	other.hear(4, msg.Of(at(5, 12, 4, 7, 1)), api.OK)
	other.hear(6, msg.Say(3, 2, pro(2, 4)), api.OK)
	other.hear(6, msg.Say(12, 1, pro(2, 4)), api.OK)
	other.checkout(3, unseen, 0)
	other.hear(4, msg.Of(at(5, 5, 4, 7, 1)), api.OK)
	other.checkout(5, unseen, 0, api.OK)
	other.has()
	if !bytes.Equal(put(b.h), was) {
		t.Errorf("the home changed that was written")
	}
}

// TestCut: P25.5 and P2, cut anywhere they are nothing, and nothing has changed.
func TestCut(t *testing.T) {
	whole := put(busy(t).h)
	other := busy(t)
	other.checkout(5, unseen, 0)
	other.hear(4, msg.Of(at(400, 5, 4, 7, 1)), api.OK)
	for n := range whole {
		if e := load(other.h, whole[:n:n]); e != api.ErrShort {
			t.Fatalf("cut at %d: %v", n, e)
		}
		if n%10 == 0 {
			other.has()
		}
	}
	other.has()
	if e := load(other.h, append(slices.Clone(whole), 0)); e != api.ErrLong {
		t.Errorf("longer: %v", e)
	}
}

// TestLoadFaults: P25.5, what may not be is a fault of the form, and nothing has changed.
func TestLoadFaults(t *testing.T) {
	other := busy(t)
	for what, change := range map[string]func(m *model){
		"late":                        func(m *model) { m.time = api.MaxTime + 1 },
		"a great Time":                func(m *model) { m.time = 1 << 63 },
		"links of another node":       func(m *model) { m.own = 6 },
		"links of no node":            func(m *model) { m.own = 0 },
		"a link to itself":            func(m *model) { m.next[1] = 2 },
		"a link's number too great":   func(m *model) { m.next[4] = api.MaxTime + 2 },
		"tables of another node":      func(m *model) { m.node = 9 },
		"tables of no node":           func(m *model) { m.node = 0 },
		"another home, the first":     func(m *model) { m.carts[2].other = 6 },
		"another home, the last":      func(m *model) { m.carts[12].other = 10 },
		"another home, a shard":       func(m *model) { m.carts[12].other = 2 },
		"no other home":               func(m *model) { m.carts[11].other = 0 },
		"itself the other home":       func(m *model) { m.carts[11].other = 1 },
		"no home 13":                  func(m *model) { m.carts[11].other = 13 },
		"a cart less":                 func(m *model) { m.carts[4] = m.carts[3]; delete(m.carts, 3) },
		"another cart ahead":          func(m *model) { m.carts[1] = m.carts[2]; delete(m.carts, 2) },
		"another cart behind":         func(m *model) { m.carts[10] = m.carts[11]; delete(m.carts, 11) },
		"an entry twice":              func(m *model) { m.carts[3].entries[1] = m.carts[3].entries[0] },
		"an entry of no seller":       func(m *model) { m.carts[3].entries[2].Seller = 0 },
		"a label that would come in":  func(m *model) { m.carts[5].waits = append(m.carts[5].waits, at(1, 5, 1, 1, 1)) },
		"a label of another cart":     func(m *model) { m.carts[12].waits[0].Cart = 3 },
		"a cut of nobody":             func(m *model) { m.carts[3].cuts[0].Home = 0 },
		"a cut of the third home":     func(m *model) { m.carts[3].cuts[0].Home = 10 },
		"a cut at no Time":            func(m *model) { m.carts[2].cuts[0].Time = 0 },
		"a round that is decided":     func(m *model) { m.carts[5].own = &cuts.Stance{Has: true, Time: 5, Cut: api.Vector{1}} },
		"a proposal like the last":    func(m *model) { m.carts[3].own.Cut = m.carts[3].last() },
		"a promise that nobody heard": func(m *model) { m.carts[6].own = &cuts.Stance{} },
	} {
		b := busy(t)
		change(b.m)
		if e := load(other.h, b.m.raw()); e != api.ErrForm {
			t.Errorf("%s: %v", what, e)
		}
		other.has()
	}
}

// TestLoadTexts: P25.5, a text that has more than an index or a table, or less, is a fault of the form.
func TestLoadTexts(t *testing.T) {
	b := busy(t)
	write := func(i, u []byte) []byte {
		w := wire.New().Num(b.m.time)
		b.m.rawLinks(w)
		for _, cart := range []int{2, 3, 5, 6, 8, 9, 11, 12} {
			w.Text(append(b.m.carts[cart].rawIndex(cart), i...)).Text(append(b.m.carts[cart].rawCuts(1), u...))
		}
		return w.Bytes()
	}
	other := busy(t)
	if e := load(other.h, write(nil, nil)); e != api.OK {
		t.Fatalf("Load: %v", e)
	}
	for _, more := range []string{"\x00", "\x01", "\x00\x00\x00"} {
		if e := load(other.h, write([]byte(more), nil)); e != api.ErrForm {
			t.Errorf("a longer index: %v", e)
		}
		if e := load(other.h, write(nil, []byte(more))); e != api.ErrForm {
			t.Errorf("a longer table: %v", e)
		}
	}
	head := wire.New().Num(b.m.time)
	b.m.rawLinks(head)
	for _, rest := range []string{"\x00", "\x02\x02\x00", "\x03\x02\x00\x00\x00", "\x03\x02\x00\x00\x04\x01\x0a\x00\x00", "\x84\x80\x01", "\xff\xff\xff\xff\x7f", "\x80\x03"} {
		if e := load(other.h, append(head.Bytes(), rest...)); e != api.ErrForm {
			t.Errorf("the texts %x: %v", rest, e)
		}
	}
	other.has()
}

// TestLoadEdges: P25.5, what may just be.
func TestLoadEdges(t *testing.T) {
	greatest := slices.Repeat([]text{{data: make([]byte, api.MaxRecord)}}, 250)
	for what, change := range map[string]func(m *model){
		"the last Time":              func(m *model) { m.time = api.MaxTime },
		"the first Time":             func(m *model) { m.time = 0 }, // the index that is handed out may have been told labels
		"a link to a shard":          func(m *model) { m.next[2] = 7 },
		"a link to nobody":           func(m *model) { m.expect[11] = api.MaxTime + 1 },
		"links whose end is there":   func(m *model) { m.next[6], m.queue[6] = api.MaxTime+1, nil },
		"a link that is full":        func(m *model) { m.next[6], m.queue[6] = 251, numbered(greatest) },
		"a stance of the other home": func(m *model) { m.carts[6].own, m.carts[6].heard = nil, &cuts.Stance{} },
		"a cart without events":      func(m *model) { m.carts[12].waits = nil },
		"a great cut":                func(m *model) { m.carts[2].cuts[1].Vector = api.Vector{11: api.MaxCount} },
	} {
		b := busy(t)
		change(b.m)
		h, _ := start(t, 1)
		if e := load(h, b.m.raw()); e != api.OK {
			t.Errorf("%s: %v", what, e)
			continue
		}
		has(t, h, b.m)
	}
}

// numbered is texts with their numbers, from 1 on.
func numbered(list []text) []text {
	for i := range list {
		list[i].seq = uint64(i + 1)
	}
	return list
}

// TestLoadGreatest: P25.5, the greatest index and the greatest table that may be.
func TestLoadGreatest(t *testing.T) {
	b := begin(t, 2)
	c := b.m.carts[12]
	for n := range 400 {
		l := at(api.MaxTime, 12, 12, 1+n%12, uint32(api.MaxCount-399+n))
		for i := range l.Deps {
			if i != l.Node-1 {
				l.Deps[i] = api.MaxCount
			}
		}
		c.waits = append(c.waits, l)
	}
	slices.SortFunc(c.waits, func(a, b label.Label) int { return 1000*(a.Node-b.Node) + int(a.N) - int(b.N) })
	for n := range uint32(20) {
		v := api.Vector{11: n + 1}
		for i := range 11 {
			v[i] = api.MaxCount
		}
		c.cuts = append(c.cuts, cuts.Cut{Home: 12, Time: api.MaxTime, Vector: v})
	}
	b.m.time = api.MaxTime
	if e := load(b.h, b.m.raw()); e != api.OK {
		t.Fatalf("Load: %v", e)
	}
	b.has()
	c.waits = append(c.waits, c.waits[0])
	if e := load(b.h, b.m.raw()); e != api.ErrForm {
		t.Errorf("a label more: %v", e)
	}
}

// TestLoadElsewhere: P25.5, the bytes of a home are no other one's.
func TestLoadElsewhere(t *testing.T) {
	b := busy(t)
	for _, node := range []int{6, 10, 2, 12, 3} {
		h, m := start(t, node)
		if e := load(h, b.m.raw()); e != api.ErrForm {
			t.Errorf("Load at %d: %v", node, e)
		}
		has(t, h, m)
	}
	x := pair() // of it 12 is a home of all carts, here one of some
	x.Kinds[2] = 1
	h, e := New(x, 12)
	if e != api.OK {
		t.Fatalf("New: %v", e)
	}
	was := put(h)
	if _, m := start(t, 12); load(h, m.raw()) != api.ErrForm || !bytes.Equal(put(h), was) {
		t.Errorf("Load: %x", put(h))
	}
}

// TestOrder: P25.5, of two faults the one that is met first.
func TestOrder(t *testing.T) {
	h, m := start(t, 1)
	b := busy(t)
	b.m.time = api.MaxTime + 1
	late := b.m.raw()
	for _, n := range []int{6, 20, len(late) - 1} {
		if e := load(h, late[:n]); e != api.ErrForm {
			t.Errorf("late, cut at %d: %v", n, e)
		}
	}
	if e := load(h, late[:5]); e != api.ErrShort {
		t.Errorf("cut within the Time: %v", e)
	}
	for at, want := range map[string]api.Errno{
		"\x00\x02":                             api.ErrShort, // its peers are missing
		"\x00\x02\x00":                         api.ErrForm,
		"\x00\x01\x00\x03\x02\x00":             api.ErrShort,
		"\x00\x01\x00\x03\x03\x00\x00":         api.ErrForm, // another cart
		"\x00\x01\x00\x03\x02\x00\x00\x05\x01": api.ErrShort,
		"\x00\x01\x00\x03\x02\x00\x00\x05\x01\x06\x00\x00\x00": api.ErrForm, // another home
		"\x00\x01\x00\x03\x02\x00\x00\x05\x01\x0a\x00\x00\x00": api.ErrShort,
	} {
		if e := load(h, []byte(at)); e != want {
			t.Errorf("%x: %v, not %v", at, e, want)
		}
	}
	has(t, h, m)
}

// TestLoadNil: P1, of readers that read nothing nothing is read, and nothing has changed.
func TestLoadNil(t *testing.T) {
	b := busy(t)
	var ended *wire.Reader
	wire.Read(nil, func(r *wire.Reader) { ended = r })
	for _, r := range []*wire.Reader{nil, {}, ended} {
		b.h.Load(r)
		b.has()
	}
	b.h.Put(nil)
	b.has()
}

// TestTurned: P25.5 and P2, whatever is read, written again, is the same; what is none changes nothing, and no call panics then.
func TestTurned(t *testing.T) {
	r := rand.New(rand.NewSource(1))
	whole := put(busy(t).h)
	read := 0
	other, m := start(t, 1)
	for range 60000 {
		b := slices.Clone(whole)
		for range 1 + r.Intn(2) {
			b[r.Intn(len(b))] = []byte{0, 1, 2, 3, 6, 10, 12, 128, byte(r.Intn(256))}[r.Intn(9)]
		}
		h, _ := New(great(), 1)
		if load(h, b) != api.OK {
			if load(other, b) == api.OK || len(put(other)) != len(put(h)) {
				t.Fatalf("%x: it changed", b)
			}
			continue
		}
		read++
		if again := put(h); !bytes.Equal(again, b) {
			t.Fatalf("%x, written again: %x", b, again)
		}
		for cart := 1; cart <= 12; cart++ {
			h.Checkout(cart, unseen, 5)
			h.View(cart, unseen, 0)
			h.Parts(cart, unseen, api.Vector{math.MaxUint32, 9, 9})
			h.Hear(6, msg.Say(cart, 2, pro(7, 9)))
			h.Hear(4, msg.Of(at(8, cart, 1, 2, 4)))
		}
	}
	has(t, other, m)
	if read < 5000 {
		t.Errorf("%d: of little worth", read)
	}
}

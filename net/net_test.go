package net

import (
	"bytes"
	"math"
	"math/rand"
	"slices"
	"testing"

	"trug/api"
	"trug/packet"
)

// text is a packet with Data, ack one that acknowledges.
func text(from, to int, seq uint64, data string) packet.Packet {
	return packet.Packet{From: from, To: to, Seq: seq, Data: []byte(data)}
}

func ack(from, to int, seq uint64) packet.Packet {
	return packet.Packet{Ack: true, From: from, To: to, Seq: seq}
}

// wrong is packets that may not be.
func wrong() []packet.Packet {
	far := ack(1, 2, 1)
	far.Data = []byte{1}
	return []packet.Packet{
		{}, text(1, 1, 1, "x"), text(0, 2, 1, "x"), text(1, 13, 1, "x"), text(-1, 2, 1, "x"), text(1, 1<<32+2, 1, "x"), text(1, 2, 0, "x"), text(1, 2, api.MaxTime+1, "x"), text(1, 2, 1, ""),
		text(1, 2, 1, string(make([]byte, 1801))), far, ack(2, 2, 1), ack(2, 0, 1), ack(1, 2, 0), ack(1, 2, math.MaxUint64),
	}
}

// places is numbers, of which many are no packet's place, or no bit's.
func places() []int {
	return []int{math.MinInt, -1 << 32, -3000, -2, -1, 3000, 3001, 1 << 32, math.MaxInt - 7, math.MaxInt}
}

// filled is a net of these packets.
func filled(t *testing.T, l ...packet.Packet) *Net {
	t.Helper()
	n := New()
	for _, p := range l {
		if e := n.Put(p); e != api.OK {
			t.Fatalf("Put of %v: %v", p, e)
		}
	}
	return n
}

// many is a net of so many packets, whose Seqs are counted from 1 on.
func many(t *testing.T, count int) *Net {
	t.Helper()
	n := New()
	for i := range count {
		n.Put(ack(1+i%11, 12, uint64(i+1)))
	}
	if n.Len() != min(count, 3000) {
		t.Fatalf("Len: %d", n.Len())
	}
	return n
}

// has asks for all packets of a net, and how many were put, and lost.
func has(t *testing.T, n *Net, put, lost int, want ...packet.Packet) {
	t.Helper()
	if n.Len() != len(want) {
		t.Fatalf("Len: %d, not %d", n.Len(), len(want))
	}
	for i, p := range want {
		if q, e := n.At(i); e != api.OK || !packet.Same(p, q) {
			t.Fatalf("At(%d): %v %v, not %v", i, q, e, p)
		}
	}
	if a, b := n.Counts(); a != put || b != lost {
		t.Fatalf("Counts: %d %d, not %d %d", a, b, put, lost)
	}
	for _, i := range append(places(), len(want)) {
		if _, e := n.At(i); e != api.ErrArg {
			t.Fatalf("At(%d): %v", i, e)
		}
	}
}

// TestExample: the document's example: Put, Twice(0): two packets.
func TestExample(t *testing.T) {
	n := filled(t, ack(1, 2, 3))
	if e := n.Twice(0); e != api.OK || n.Len() != 2 {
		t.Errorf("Twice: %v, Len %d", e, n.Len())
	}
	has(t, n, 1, 0, ack(1, 2, 3), ack(1, 2, 3))
}

// TestNew: P30.1, a net without packets.
func TestNew(t *testing.T) {
	n := New()
	has(t, n, 0, 0)
	for node := range 15 {
		if i := n.To(node); i != -1 {
			t.Errorf("To(%d): %d", node, i)
		}
	}
	if New() == n {
		t.Errorf("the same one")
	}
}

// TestNil: P30.1 and P1, of nil, or one that no call made.
func TestNil(t *testing.T) {
	for _, n := range []*Net{nil, {}} {
		for _, p := range append(wrong(), text(1, 2, 1, "x")) {
			if e := n.Put(p); e != api.ErrNil {
				t.Errorf("Put: %v", e)
			}
		}
		for _, i := range append(places(), 0, 1, 2) {
			if p, e := n.At(i); e != api.ErrNil || !packet.Same(p, packet.Packet{}) {
				t.Errorf("At(%d): %v %v", i, p, e)
			}
			if p, e := n.Take(i); e != api.ErrNil || !packet.Same(p, packet.Packet{}) {
				t.Errorf("Take(%d): %v %v", i, p, e)
			}
			if n.Twice(i) != api.ErrNil || n.Drop(i) != api.ErrNil || n.Spoil(i, 0) != api.ErrNil || n.Spoil(0, i) != api.ErrNil {
				t.Errorf("Twice, Drop, Spoil of %d: no error", i)
			}
			if n.To(i) != -1 {
				t.Errorf("To(%d): %d", i, n.To(i))
			}
		}
		if a, b := n.Counts(); a != 0 || b != 0 || n.Len() != 0 {
			t.Errorf("%d %d %d", a, b, n.Len())
		}
	}
}

// TestPut: P30.1, what may be is the last one; ErrForm of what may not be, which is not counted.
func TestPut(t *testing.T) {
	l := []packet.Packet{text(1, 2, 1, "a"), ack(2, 1, api.MaxTime), text(12, 1, api.MaxTime, string(make([]byte, 1800))), text(1, 2, 1, "a")}
	n := New()
	for i, p := range l {
		for _, q := range wrong() {
			if e := n.Put(q); e != api.ErrForm {
				t.Errorf("Put of %v: %v", q, e)
			}
		}
		if e := n.Put(p); e != api.OK {
			t.Errorf("Put of %v: %v", p, e)
		}
		has(t, n, i+1, 0, l[:i+1]...)
	}
}

// TestFull: P30.1 and P30.2, of 3000 packets one more is lost, but counted as put; none is doubled.
func TestFull(t *testing.T) {
	n := many(t, 2999)
	if e := n.Twice(7); e != api.OK || n.Len() != 3000 {
		t.Fatalf("Twice: %v, Len %d", e, n.Len())
	}
	for i, p := range []packet.Packet{text(1, 2, 9999, "x"), ack(1, 2, 9999)} {
		if e := n.Put(p); e != api.OK || n.Len() != 3000 {
			t.Errorf("Put: %v, Len %d", e, n.Len())
		}
		if a, b := n.Counts(); a != 3000+i || b != 0 { // it is lost by no script
			t.Errorf("Counts: %d %d", a, b)
		}
	}
	if e := n.Put(wrong()[1]); e != api.ErrForm {
		t.Errorf("Put: %v", e)
	}
	for _, i := range []int{0, 1, 2999} {
		if e := n.Twice(i); e != api.ErrFull || n.Len() != 3000 {
			t.Errorf("Twice(%d): %v, Len %d", i, e, n.Len())
		}
	}
	for _, i := range places() {
		if e := n.Twice(i); e != api.ErrArg { // ahead of ErrFull
			t.Errorf("Twice(%d): %v", i, e)
		}
	}
	if p, e := n.At(2999); e != api.OK || p.Seq != 8 || n.To(2) != -1 {
		t.Errorf("the last one: %v %v", p, e)
	}
	n.Take(0)
	if e := n.Put(ack(1, 2, 5)); e != api.OK || n.Len() != 3000 || n.To(2) != 2999 {
		t.Errorf("Put: %v, Len %d", e, n.Len())
	}
	n.Drop(5)
	if e := n.Twice(2998); e != api.OK || n.Len() != 3000 {
		t.Errorf("Twice: %v, Len %d", e, n.Len())
	}
	if a, b := n.Counts(); a != 3002 || b != 1 {
		t.Errorf("Counts: %d %d", a, b)
	}
}

// TestTo: P30.1, the place of the first one that goes to a node, of those that can be read.
func TestTo(t *testing.T) {
	n := filled(t, text(1, 2, 1, "a"), ack(3, 4, 1), text(2, 4, 1, "b"), ack(1, 2, 2), text(1, 12, 5, "c"))
	ask := func(want map[int]int) {
		t.Helper()
		for _, node := range append(places(), 0, 1, 2, 3, 4, 5, 6, 7, 8, 9, 10, 11, 12, 13, 1<<32+2) {
			i, is := want[node]
			if !is {
				i = -1
			}
			if got := n.To(node); got != i {
				t.Errorf("To(%d): %d, not %d", node, got, i)
			}
		}
	}
	ask(map[int]int{2: 0, 4: 1, 12: 4})
	n.Spoil(0, 60) // its sum
	ask(map[int]int{2: 3, 4: 1, 12: 4})
	n.Spoil(1, 0) // no Ack's byte: what cannot be read goes nowhere
	ask(map[int]int{2: 3, 4: 2, 12: 4})
	n.Spoil(0, 60) // and back
	n.Spoil(4, 1)
	ask(map[int]int{2: 0, 4: 2})
	n.Take(0)
	ask(map[int]int{2: 2, 4: 1})
}

// TestAt: P30.2, a packet is still there.
func TestAt(t *testing.T) {
	l := []packet.Packet{text(1, 2, 1, "a"), ack(2, 1, 4), text(1, 2, 2, "b")}
	n := filled(t, l...)
	for range 3 {
		has(t, n, 3, 0, l...)
	}
}

// TestTake: P30.2, the packet is gone; the others are there, in order.
func TestTake(t *testing.T) {
	l := []packet.Packet{text(1, 2, 1, "a"), ack(2, 1, 4), text(1, 2, 2, "b"), ack(3, 1, 7)}
	for i := range l {
		n := filled(t, l...)
		for _, k := range append(places(), len(l)) {
			if p, e := n.Take(k); e != api.ErrArg || !packet.Same(p, packet.Packet{}) {
				t.Errorf("Take(%d): %v %v", k, p, e)
			}
		}
		has(t, n, 4, 0, l...)
		if p, e := n.Take(i); e != api.OK || !packet.Same(p, l[i]) {
			t.Errorf("Take(%d): %v %v", i, p, e)
		}
		has(t, n, 4, 0, slices.Delete(slices.Clone(l), i, i+1)...) // it is not lost
	}
}

// TestSpoilt: P30.2, of what is spoilt At and Take tell its Read's error; it is still there of At, and gone of Take.
func TestSpoilt(t *testing.T) {
	l := []packet.Packet{ack(2, 1, 4), text(1, 2, 1, "abc"), text(1, 2, 2, "b")}
	b, _ := packet.Write(l[1])
	sums, forms := 0, 0
	for bit := range len(b) * 8 {
		spoilt := slices.Clone(b)
		spoilt[bit/8] ^= 128 >> (bit % 8)
		_, want := packet.Read(spoilt)
		switch want {
		case api.ErrSum:
			sums++
		case api.ErrForm:
			forms++
		default:
			t.Fatalf("the bit %d: %v", bit, want)
		}
		n := filled(t, l...)
		if e := n.Spoil(1, bit); e != api.OK || n.Len() != 3 {
			t.Fatalf("Spoil: %v", e)
		}
		for range 2 {
			if p, e := n.At(1); e != want || !packet.Same(p, packet.Packet{}) || p.Data != nil || n.Len() != 3 {
				t.Fatalf("At: %v %v, not %v", p, e, want)
			}
		}
		if p, e := n.Take(1); e != want || !packet.Same(p, packet.Packet{}) || p.Data != nil {
			t.Fatalf("Take: %v %v, not %v", p, e, want)
		}
		has(t, n, 3, 0, l[0], l[2])
		n = filled(t, l...)
		n.Spoil(1, bit)
		n.Spoil(1, bit)
		has(t, n, 3, 0, l...) // it is turned back
	}
	if sums < 20 || forms < 20 {
		t.Errorf("%d %d: of little worth", sums, forms)
	}
}

// TestSpoil: P30.2, each byte's greatest bit is the first one; ErrArg, if there is no packet, or no bit.
func TestSpoil(t *testing.T) {
	p := text(1, 2, 3, "abc")
	b, _ := packet.Write(p)
	for i, want := range map[int]string{0: "abc", 39: "abc", 40: "\xe1bc", 41: "!bc", 47: "`bc", 48: "a\xe2c", 63: "abb", 64: "abc"} {
		n := filled(t, p)
		n.Spoil(0, i)
		if got := string(n.packets[0][5:8]); got != want { // behind 0, From, To, Seq and how many bytes
			t.Errorf("the bit %d: %x, not %x", i, got, want)
		}
	}
	n := filled(t, p, ack(1, 2, 3))
	short, _ := packet.Write(ack(1, 2, 3))
	for _, i := range []int{-1, math.MinInt, -8, len(b) * 8, len(b)*8 + 1, math.MaxInt} {
		if e := n.Spoil(0, i); e != api.ErrArg {
			t.Errorf("Spoil(0, %d): %v", i, e)
		}
	}
	if e := n.Spoil(1, len(short)*8); e != api.ErrArg {
		t.Errorf("Spoil: %v", e)
	}
	for _, i := range append(places(), 2) {
		if e := n.Spoil(i, 0); e != api.ErrArg {
			t.Errorf("Spoil(%d, 0): %v", i, e)
		}
	}
	has(t, n, 2, 0, p, ack(1, 2, 3))
	for _, i := range []int{0, len(short)*8 - 1} {
		if e := n.Spoil(1, i); e != api.OK {
			t.Errorf("Spoil(1, %d): %v", i, e)
		}
	}
}

// TestTwice: P30.2, the same bytes are the last ones, too: also spoilt ones; each is spoilt alone.
func TestTwice(t *testing.T) {
	l := []packet.Packet{text(1, 2, 1, "a"), ack(2, 1, 4)}
	n := filled(t, l...)
	for _, i := range append(places(), 2) {
		if e := n.Twice(i); e != api.ErrArg {
			t.Errorf("Twice(%d): %v", i, e)
		}
	}
	has(t, n, 2, 0, l...)
	if e := n.Twice(0); e != api.OK {
		t.Errorf("Twice: %v", e)
	}
	has(t, n, 2, 0, l[0], l[1], l[0]) // it is not counted as put
	n.Spoil(2, 50)
	if p, e := n.At(0); e != api.OK || !packet.Same(p, l[0]) {
		t.Errorf("both are spoilt: %v %v", p, e)
	}
	if e := n.Twice(2); e != api.OK || n.Len() != 4 {
		t.Errorf("Twice of a spoilt one: %v", e)
	}
	n.Spoil(0, 50)
	for _, i := range []int{0, 2, 3} {
		if _, e := n.At(i); e == api.OK || !bytes.Equal(n.packets[i], n.packets[0]) {
			t.Errorf("At(%d): %v", i, e)
		}
	}
	for _, i := range []int{0, 2, 3} {
		n.Spoil(i, 50)
	}
	has(t, n, 2, 0, l[0], l[1], l[0], l[0])
}

// TestDrop: P30.2, it is gone, and lost; a spoilt one, too.
func TestDrop(t *testing.T) {
	l := []packet.Packet{text(1, 2, 1, "a"), ack(2, 1, 4), text(1, 2, 2, "b"), ack(3, 1, 7)}
	n := filled(t, l...)
	for _, i := range append(places(), 4) {
		if e := n.Drop(i); e != api.ErrArg {
			t.Errorf("Drop(%d): %v", i, e)
		}
	}
	has(t, n, 4, 0, l...)
	n.Drop(1)
	has(t, n, 4, 1, l[0], l[2], l[3])
	n.Spoil(2, 3)
	if e := n.Drop(2); e != api.OK {
		t.Errorf("Drop: %v", e)
	}
	has(t, n, 4, 2, l[0], l[2])
	n.Drop(0)
	n.Drop(0)
	has(t, n, 4, 4)
	if e := n.Drop(0); e != api.ErrArg {
		t.Errorf("Drop: %v", e)
	}
	n.Put(l[3])
	has(t, n, 5, 4, l[3])
}

// TestOwnMemory: the rule 5, what is put is not kept, and what is told is new.
func TestOwnMemory(t *testing.T) {
	p := text(1, 2, 1, "abc")
	n := filled(t, p)
	p.Data[0] = 'x'
	want := text(1, 2, 1, "abc")
	q, _ := n.At(0)
	for i := range q.Data {
		q.Data[i] = 'y'
	}
	_ = append(q.Data, 'z')
	has(t, n, 1, 0, want)
	n.Twice(0)
	q, _ = n.Take(0)
	q.Data[0] = 'y'
	has(t, n, 1, 0, want)
}

// item is a packet of a model, as bytes.
type item string

// read is what that item is read as.
func (b item) read() (packet.Packet, api.Errno) { return packet.Read([]byte(b)) }

// model is a net by the words of the document.
type model struct {
	items     []item
	put, lost int
}

// gone lets an item be gone.
func (m *model) gone(i int) {
	var out []item
	out = append(append(out, m.items[:i]...), m.items[i+1:]...)
	m.items = out
}

// to is To by the words of the document.
func (m *model) to(node int) int {
	for i, b := range m.items {
		if p, e := b.read(); e == api.OK && p.To == node {
			return i
		}
	}
	return -1
}

// some is a place, one of which in twenty is none.
func (m *model) some(r *rand.Rand) (int, bool) {
	i := r.Intn(len(m.items) + 1)
	if r.Intn(20) == 0 {
		i = places()[r.Intn(len(places()))]
	}
	return i, i >= 0 && i < len(m.items)
}

// asks asks one thing of both.
func (m *model) asks(t *testing.T, r *rand.Rand, n *Net) {
	t.Helper()
	i, is := m.some(r)
	want := api.ErrArg
	var got api.Errno
	switch k := r.Intn(20); {
	case k < 9:
		p := text(r.Intn(14), r.Intn(14), uint64(r.Intn(40)), string(make([]byte, r.Intn(30))))
		if r.Intn(2) == 0 {
			p = ack(r.Intn(14), r.Intn(14), uint64(r.Intn(40)))
		}
		b, e := packet.Write(p)
		want, got = e, n.Put(p)
		if e == api.OK {
			m.put++
			m.items = append(m.items, item(b))
		}
	case k < 14:
		var p, q packet.Packet
		if is {
			p, want = m.items[i].read()
		}
		if k < 11 {
			q, got = n.At(i)
		} else {
			q, got = n.Take(i)
			if is {
				m.gone(i)
			}
		}
		if !packet.Same(p, q) {
			t.Fatalf("of %d: %v, not %v", i, q, p)
		}
	case k < 16:
		got = n.Twice(i)
		if is {
			m.items, want = append(m.items, m.items[i]), api.OK
		}
	case k < 17:
		got = n.Drop(i)
		if is {
			m.gone(i)
			m.lost++
			want = api.OK
		}
	default:
		bit := r.Intn(200) - 2
		got = n.Spoil(i, bit)
		if is && bit >= 0 && bit < 8*len(m.items[i]) {
			b := []byte(m.items[i])
			b[bit/8] ^= 1 << (7 - bit%8)
			m.items[i], want = item(b), api.OK
		}
	}
	if got != want {
		t.Fatalf("of %d: %v, not %v", i, got, want)
	}
}

// TestAny: P30.1 to P30.3, whatever one asks for, a net tells what the document says.
func TestAny(t *testing.T) {
	r := rand.New(rand.NewSource(1))
	most := 0
	for range 60 {
		n, m := New(), &model{}
		for range 1000 {
			m.asks(t, r, n)
			node := r.Intn(14)
			put, lost := n.Counts()
			if n.Len() != len(m.items) || put != m.put || lost != m.lost || n.To(node) != m.to(node) {
				t.Fatalf("%d %d %d, To(%d) %d; not %d %d %d, %d", n.Len(), put, lost, node, n.To(node), len(m.items), m.put, m.lost, m.to(node))
			}
		}
		most = max(most, n.Len())
		for range m.items {
			p, e := n.Take(0)
			if q, f := m.items[0].read(); e != f || !packet.Same(p, q) {
				t.Fatalf("Take: %v %v, not %v %v", p, e, q, f)
			}
			m.gone(0)
		}
	}
	if most < 100 {
		t.Errorf("%d: of little worth", most)
	}
}

// TestSame: P30.3, what is taken, and not spoilt, is what was put, wherever it is taken.
func TestSame(t *testing.T) {
	r := rand.New(rand.NewSource(1))
	n := New()
	var l []packet.Packet
	for range 3000 {
		p := text(1+r.Intn(6), 7+r.Intn(6), 1+uint64(r.Intn(api.MaxTime)), "")
		p.Data = make([]byte, 1+r.Intn(60))
		r.Read(p.Data)
		n.Put(p)
		l = append(l, p)
	}
	for len(l) > 0 {
		i := r.Intn(len(l))
		if p, e := n.Take(i); e != api.OK || !packet.Same(p, l[i]) {
			t.Fatalf("Take(%d): %v %v, not %v", i, p, e, l[i])
		}
		l = slices.Delete(l, i, i+1)
	}
	has(t, n, 3000, 0)
}

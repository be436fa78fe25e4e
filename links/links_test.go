package links

import (
	"bytes"
	"math"
	"math/rand"
	"slices"
	"strconv"
	"testing"

	"trug/api"
	"trug/link"
	"trug/packet"
	"trug/wire"
)

// state is a link by the words of the document.
type state struct {
	next, expect uint64
	texts        []string
}

// model is links by the words of the document: those that are there, by nodes.
type model struct {
	own   int
	links map[int]*state
}

// newModel is links to nobody.
func newModel(own int) *model { return &model{own, map[int]*state{}} }

// at is the link to a node, that is there from now on.
func (m *model) at(to int) *state {
	if m.links[to] == nil {
		m.links[to] = &state{next: 1, expect: 1}
	}
	return m.links[to]
}

// peers is the nodes to which there is a link.
func (m *model) peers() []int {
	var out []int
	for n := 1; n <= 12; n++ {
		if m.links[n] != nil {
			out = append(out, n)
		}
	}
	return out
}

// raw is the bytes that the document gives links.
func (m *model) raw() []byte {
	w := wire.New().Num(uint64(m.own)).Num(uint64(len(m.links)))
	for _, n := range m.peers() {
		s := m.links[n]
		w.Num(uint64(n)).Num(s.next).Num(uint64(len(s.texts)))
		for _, b := range s.texts {
			w.Text([]byte(b))
		}
		w.Num(s.expect)
	}
	return w.Bytes()
}

// nodes is all nodes, and numbers that are none.
func nodes() []int {
	list := []int{0, -1, 13, 14, math.MinInt, math.MaxInt, 1 << 32, 1<<32 + 1, 1<<32 + 12}
	for n := 1; n <= 12; n++ {
		list = append(list, n)
	}
	return list
}

// put is the bytes of links.
func put(l *Links) []byte {
	w := wire.New()
	l.Put(w)
	return w.Bytes()
}

// has asks all that links tell, and their bytes.
func has(t *testing.T, l *Links, m *model) {
	t.Helper()
	if l.Own() != m.own || !slices.Equal(l.Peers(), m.peers()) {
		t.Fatalf("Own %d, Peers %v; not %d, %v", l.Own(), l.Peers(), m.own, m.peers())
	}
	var packets []packet.Packet
	for _, n := range nodes() {
		packets = append(packets, m.asks(t, l, n)...)
	}
	if got := l.Packets(); !slices.EqualFunc(got, packets, packet.Same) {
		t.Fatalf("Packets: %.80v, not %.80v", got, packets)
	}
	if b := put(l); !bytes.Equal(b, m.raw()) {
		t.Fatalf("Put: %.80x, not %.80x", b, m.raw())
	}
}

// asks asks all that links tell of a node; the packets to it.
func (m *model) asks(t *testing.T, l *Links, n int) []packet.Packet {
	t.Helper()
	room, ack, took := 250, packet.Packet{}, false
	if n < 1 || n > 12 || n == m.own {
		room = 0
	}
	s := m.links[n]
	if s == nil {
		s = &state{next: 1, expect: 1}
	} else if s.expect > 1 {
		ack, took = packet.Packet{Ack: true, From: m.own, To: n, Seq: s.expect - 1}, true
	}
	if got := l.Room(n); got != room-len(s.texts) {
		t.Fatalf("Room(%d): %d, not %d", n, got, room-len(s.texts))
	}
	if got, is := l.Ack(n); is != took || !packet.Same(got, ack) {
		t.Fatalf("Ack(%d): %v %t, not %v %t", n, got, is, ack, took)
	}
	var items []link.Item
	var packets []packet.Packet
	for i, b := range s.texts {
		seq := s.next - uint64(len(s.texts)-i)
		items = append(items, link.Item{Seq: seq, Data: []byte(b)})
		packets = append(packets, packet.Packet{From: m.own, To: n, Seq: seq, Data: []byte(b)})
	}
	same := func(a, b link.Item) bool { return a.Seq == b.Seq && string(a.Data) == string(b.Data) }
	if got := l.Queue(n); !slices.EqualFunc(got, items, same) {
		t.Fatalf("Queue(%d): %.80v, not %.80v", n, got, items)
	}
	return packets
}

// sends asks for a text that is sent.
func (m *model) sends(t *testing.T, l *Links, to int, b string) {
	t.Helper()
	s := m.at(to)
	if seq, e := l.Send(to, []byte(b)); seq != s.next || e != api.OK {
		t.Fatalf("Send(%d, %.20q): %d %v, not %d", to, b, seq, e, s.next)
	}
	s.texts = append(s.texts, b)
	s.next++
}

// takes asks for a text that is taken.
func (m *model) takes(t *testing.T, l *Links, from int, b string) {
	t.Helper()
	s := m.at(from)
	p := packet.Packet{From: from, To: m.own, Seq: s.expect, Data: []byte(b)}
	if got, is, e := l.Hear(p); string(got) != b || !is || e != api.OK {
		t.Fatalf("Hear(%.40v): %.20q %t %v", p, got, is, e)
	}
	s.expect++
}

// refuses asks for a text that is not sent.
func refuses(t *testing.T, l *Links, to int, b []byte, want api.Errno) {
	t.Helper()
	if seq, e := l.Send(to, b); seq != 0 || e != want {
		t.Fatalf("Send of %d bytes to %d: %d %v, not %v", len(b), to, seq, e, want)
	}
}

// acks asks how many texts are acknowledged.
func acks(t *testing.T, l *Links, to int, seq uint64, want int, e api.Errno) {
	t.Helper()
	if n, f := l.Acked(to, seq); n != want || f != e {
		t.Fatalf("Acked(%d, %d): %d %v, not %d %v", to, seq, n, f, want, e)
	}
}

// passes asks for a packet of which nothing is taken.
func passes(t *testing.T, l *Links, p packet.Packet, want api.Errno) {
	t.Helper()
	if b, is, e := l.Hear(p); len(b) != 0 || is || e != want {
		t.Fatalf("Hear(%.60v): %.20q %t %v, not %v", p, b, is, e, want)
	}
}

// start is links to nobody, and their model.
func start(t *testing.T, own int) (*Links, *model) {
	t.Helper()
	l, e := New(own)
	if e != api.OK || l == nil {
		t.Fatalf("New(%d): %v %v", own, l, e)
	}
	return l, newModel(own)
}

// TestNew: P17.1, links of each node, to nobody, and of no node.
func TestNew(t *testing.T) {
	for _, n := range nodes() {
		if n >= 1 && n <= 12 {
			l, m := start(t, n)
			has(t, l, m)
			other, _ := New(n)
			m.sends(t, l, n%12+1, "a")
			has(t, l, m)
			has(t, other, newModel(n)) // another one
		} else if l, e := New(n); l != nil || e != api.ErrNode {
			t.Errorf("New(%d): %v %v", n, l, e)
		}
	}
}

// TestNil: P17.1 to P17.4 and P1, of nil, or one that no call made, ahead of all other errors.
func TestNil(t *testing.T) {
	for _, l := range []*Links{nil, {}, new(Links)} {
		for _, n := range nodes() {
			for _, b := range [][]byte{nil, []byte("a"), make([]byte, api.MaxRecord+1)} {
				refuses(t, l, n, b, api.ErrNil)
				passes(t, l, packet.Packet{From: n, To: 1, Seq: 1, Data: b}, api.ErrNil)
				passes(t, l, packet.Packet{From: 1, To: n, Seq: 1, Data: b}, api.ErrNil)
				passes(t, l, packet.Packet{Ack: true, From: 1, To: n, Seq: 1}, api.ErrNil)
			}
			for _, seq := range []uint64{0, 1, math.MaxUint64} {
				acks(t, l, n, seq, 0, api.ErrNil)
			}
			if p, is := l.Ack(n); is || !packet.Same(p, packet.Packet{}) || l.Room(n) != 0 || len(l.Queue(n)) != 0 {
				t.Errorf("of %d: %v %t, %d, %v", n, p, is, l.Room(n), l.Queue(n))
			}
		}
		l.Put(nil)
		if b := put(l); l.Own() != 0 || len(l.Peers()) != 0 || len(l.Packets()) != 0 || len(b) != 0 {
			t.Errorf("%d, %v, %v, %x", l.Own(), l.Peers(), l.Packets(), b)
		}
	}
}

// TestExample: the document's example.
func TestExample(t *testing.T) {
	l, m := start(t, 1)
	m.sends(t, l, 2, "x")
	p := l.Packets()
	if len(p) != 1 || !packet.Same(p[0], packet.Packet{From: 1, To: 2, Seq: 1, Data: []byte("x")}) {
		t.Errorf("Packets: %v", p)
	}
}

// TestSend: P17.2, texts to several nodes, each with numbers of their own.
func TestSend(t *testing.T) {
	l, m := start(t, 5)
	greatest := string(make([]byte, api.MaxRecord))
	for i, to := range []int{12, 1, 12, 4, 6, 1, 12, 11, 2} {
		m.sends(t, l, to, []string{"a", "\x00", greatest}[i%3])
		has(t, l, m)
	}
}

// TestSendWrong: P17.2, no node, or its own, ahead of what may not be a text; a link is there, just if there was no error.
func TestSendWrong(t *testing.T) {
	l, m := start(t, 5)
	for range 2 {
		for _, b := range [][]byte{nil, {}, make([]byte, api.MaxRecord+1), make([]byte, 1<<17)} {
			for _, to := range nodes() {
				want := api.ErrNode
				if to >= 1 && to <= 12 && to != 5 {
					want = api.ErrForm
				}
				refuses(t, l, to, b, want)
			}
		}
		for _, to := range []int{0, -1, 13, 5, math.MinInt, math.MaxInt, 1<<32 + 2} {
			refuses(t, l, to, []byte("a"), api.ErrNode)
		}
		has(t, l, m)
		m.sends(t, l, 3, "a")
		m.takes(t, l, 12, "a")
	}
}

// TestFull: P17.1, P17.2 and P17.5, at most MaxQueue texts to one node are not acknowledged; how many to others plays no part.
func TestFull(t *testing.T) {
	l, m := start(t, 1)
	for n := range api.MaxQueue {
		if got := l.Room(2); got != api.MaxQueue-n {
			t.Fatalf("Room: %d behind %d texts", got, n)
		}
		m.sends(t, l, 2, strconv.Itoa(n))
	}
	has(t, l, m)
	refuses(t, l, 2, []byte("a"), api.ErrFull)
	refuses(t, l, 2, nil, api.ErrForm)
	m.sends(t, l, 3, "b")
	m.takes(t, l, 2, "c")
	has(t, l, m)
	refuses(t, l, 2, []byte("a"), api.ErrFull)
	acks(t, l, 2, 3, 3, api.OK)
	m.links[2].texts = m.links[2].texts[3:]
	has(t, l, m)
	for _, b := range []string{"d", "e", "f"} {
		m.sends(t, l, 2, b)
	}
	refuses(t, l, 2, []byte("a"), api.ErrFull)
	has(t, l, m)
}

// TestAcked: P17.2, there is no link to who sent nothing, and to whom nothing was sent; else the link's.
func TestAcked(t *testing.T) {
	l, m := start(t, 2)
	for range 2 {
		for _, n := range nodes() {
			for _, seq := range []uint64{0, 1, 9, api.MaxTime + 1, math.MaxUint64} {
				if m.links[n] == nil {
					acks(t, l, n, seq, 0, api.ErrNone)
				}
			}
		}
		has(t, l, m)
		m.sends(t, l, 1, "a") // there is one now
	}
	m.sends(t, l, 1, "c")
	m.takes(t, l, 12, "d")
	m.sends(t, l, 7, "e")
	acks(t, l, 1, 4, 0, api.ErrAway)
	acks(t, l, 1, math.MaxUint64, 0, api.ErrAway)
	acks(t, l, 12, 1, 0, api.ErrAway)
	acks(t, l, 12, 0, 0, api.OK)
	acks(t, l, 1, 0, 0, api.OK)
	has(t, l, m)
	acks(t, l, 1, 2, 2, api.OK)
	acks(t, l, 1, 2, 0, api.OK)
	acks(t, l, 1, 1, 0, api.OK)
	m.links[1].texts = m.links[1].texts[2:]
	has(t, l, m)
	acks(t, l, 1, 3, 1, api.OK)
	m.links[1].texts = nil
	has(t, l, m) // the link is there still
}

// TestHear: P17.3, what comes from several nodes is taken, each once, in order.
func TestHear(t *testing.T) {
	l, m := start(t, 12)
	text := func(from int, seq uint64) packet.Packet {
		return packet.Packet{From: from, To: 12, Seq: seq, Data: []byte("a")}
	}
	for _, seq := range []uint64{2, 3, 1000, api.MaxTime} {
		passes(t, l, text(3, seq), api.ErrAway)
	}
	has(t, l, m) // no link is there by that
	m.takes(t, l, 3, "a")
	has(t, l, m)
	passes(t, l, text(3, 1), api.OK)
	passes(t, l, text(3, 3), api.ErrAway)
	passes(t, l, text(1, 2), api.ErrAway)
	has(t, l, m)
	m.takes(t, l, 3, "a")
	m.takes(t, l, 1, "b")
	m.takes(t, l, 11, string(make([]byte, api.MaxRecord)))
	for seq := uint64(1); seq <= 2; seq++ {
		passes(t, l, text(3, seq), api.OK)
	}
	has(t, l, m)
	m.sends(t, l, 4, "c")
	passes(t, l, text(4, 2), api.ErrAway)
	m.takes(t, l, 4, "d")
	has(t, l, m)
}

// TestHearAck: P17.3, an Ack: nothing is taken, and no link is there by it.
func TestHearAck(t *testing.T) {
	l, m := start(t, 1)
	ack := func(from int, seq uint64) packet.Packet {
		return packet.Packet{Ack: true, From: from, To: 1, Seq: seq}
	}
	for from := 2; from <= 12; from++ {
		passes(t, l, ack(from, 1), api.ErrNone)
	}
	has(t, l, m)
	for _, b := range []string{"a", "b", "c"} {
		m.sends(t, l, 2, b)
		m.sends(t, l, 3, b)
	}
	m.takes(t, l, 4, "d")
	passes(t, l, ack(2, 4), api.ErrAway)
	passes(t, l, ack(4, 1), api.ErrAway)
	passes(t, l, ack(5, 1), api.ErrNone)
	has(t, l, m)
	for range 2 {
		passes(t, l, ack(2, 2), api.OK)
		m.links[2].texts = []string{"c"}
		has(t, l, m)
	}
	passes(t, l, ack(2, 1), api.OK)
	empty := ack(2, 3)
	empty.Data = []byte{} // a list without elements may be nil or empty
	passes(t, l, empty, api.OK)
	m.links[2].texts = nil
	has(t, l, m)
}

// TestHearWrong: P17.3 and P1, packets that may not be, ahead of those that go elsewhere, ahead of all else.
func TestHearWrong(t *testing.T) {
	l, m := start(t, 3)
	m.sends(t, l, 5, "a")
	m.sends(t, l, 5, "b")
	m.takes(t, l, 5, "c")
	ok := packet.Packet{From: 5, To: 3, Seq: 2, Data: []byte("a")}
	ack := packet.Packet{Ack: true, From: 5, To: 3, Seq: 1}
	for _, p := range []packet.Packet{ok, ack} {
		for _, to := range []int{1, 2, 4, 6, 12} {
			p.To = to
			passes(t, l, p, api.ErrNode)
			q := p
			q.From, q.Seq = 9, 77 // of a node to which there is no link, or away
			passes(t, l, q, api.ErrNode)
			q.From = 3
			passes(t, l, q, api.ErrNode)
		}
		for _, n := range []int{0, -1, 13, math.MinInt, math.MaxInt, 1<<32 + 3, 1<<32 + 5} {
			for _, wrong := range []packet.Packet{{From: n, To: 3}, {From: n, To: 4}, {From: 5, To: n}, {From: n, To: n}} {
				wrong.Ack, wrong.Seq, wrong.Data = p.Ack, p.Seq, p.Data
				passes(t, l, wrong, api.ErrForm)
			}
		}
		for _, to := range []int{3, 4} {
			p.To = to
			for _, seq := range []uint64{0, api.MaxTime + 1, math.MaxUint64} {
				q := p
				q.Seq = seq
				passes(t, l, q, api.ErrForm)
			}
			q := p
			q.From = to
			passes(t, l, q, api.ErrForm)
			q = p
			q.Ack = !p.Ack
			passes(t, l, q, api.ErrForm)
			q = p
			q.Data = make([]byte, api.MaxRecord+1)
			passes(t, l, q, api.ErrForm)
		}
	}
	has(t, l, m)
	m.takes(t, l, 5, "a")
}

// TestLast: P17.1 to P17.4, a link whose numbers come to an end.
func TestLast(t *testing.T) {
	m := newModel(1)
	m.links[2] = &state{next: api.MaxTime, expect: api.MaxTime, texts: []string{"a"}}
	l := read(t, m.raw())
	has(t, l, m)
	m.sends(t, l, 2, "b")
	m.takes(t, l, 2, "c")
	has(t, l, m)
	refuses(t, l, 2, []byte("d"), api.ErrFull)
	passes(t, l, packet.Packet{From: 2, To: 1, Seq: api.MaxTime, Data: []byte("d")}, api.OK)
	m.sends(t, l, 3, "d")
	passes(t, l, packet.Packet{Ack: true, From: 2, To: 1, Seq: api.MaxTime}, api.OK)
	m.links[2].texts = nil
	has(t, l, m)
}

// TestOwnMemory: what is handed in is neither kept nor changed; what is handed out is new memory.
func TestOwnMemory(t *testing.T) {
	l, m := start(t, 1)
	all := []byte("abcdef")
	l.Send(2, all[1:3])
	m.at(2).texts, m.at(2).next = []string{"bc"}, 2
	got, _, _ := l.Hear(packet.Packet{From: 2, To: 1, Seq: 1, Data: all[2:4]})
	m.at(2).expect = 2
	_ = append(got, 'x')
	got[0] = 'y'
	if string(all) != "abcdef" || string(got) != "yd" {
		t.Errorf("changed: %q, %q", all, got)
	}
	clear(all)
	if string(got) != "yd" {
		t.Errorf("kept: %q", got)
	}
	has(t, l, m)
	q, p, peers, b := l.Queue(2), l.Packets(), l.Peers(), put(l)
	q[0].Data[0], q[0].Seq = 'z', 9
	p[0].Data[0], p[0].Seq = 'z', 9
	peers[0] = 7
	clear(b)
	has(t, l, m)
	b = m.raw()
	back := read(t, b)
	clear(b)
	has(t, back, m)
}

// TestCopy: a copy of links stays as it is, whatever happens to them.
func TestCopy(t *testing.T) {
	l, m := start(t, 1)
	m.sends(t, l, 2, "a")
	m.takes(t, l, 3, "b")
	was := read(t, m.raw())
	c := *l
	m.sends(t, l, 2, "c")
	m.sends(t, l, 4, "d")
	m.takes(t, l, 3, "e")
	acks(t, l, 2, 1, 1, api.OK)
	m.links[2].texts = []string{"c"}
	if !bytes.Equal(put(&c), put(was)) {
		t.Errorf("a copy: %x, not %x", put(&c), put(was))
	}
	c.Send(2, []byte("f"))
	has(t, l, m)
}

// step does something to links, and to their model.
func (m *model) step(t *testing.T, r *rand.Rand, l *Links) {
	t.Helper()
	n := []int{1, 3, 3, 8, 12, 5}[r.Intn(6)]
	if n == m.own {
		refuses(t, l, n, []byte("a"), api.ErrNode)
		acks(t, l, n, 0, 0, api.ErrNone)
		passes(t, l, packet.Packet{From: n, To: m.own, Seq: 1, Data: []byte("a")}, api.ErrForm)
		return
	}
	s := m.links[n]
	switch k := r.Intn(8); {
	case k < 3 && (s == nil || len(s.texts) < api.MaxQueue):
		m.sends(t, l, n, strconv.Itoa(r.Intn(1000)))
	case k < 3:
		refuses(t, l, n, []byte("a"), api.ErrFull)
	case k == 3:
		m.acked(t, r, l, n)
	case k < 6:
		m.takes(t, l, n, strconv.Itoa(r.Intn(1000)))
	default:
		seq := 1 + uint64(r.Intn(20))
		want, expect := api.OK, uint64(1)
		if s != nil {
			expect = s.expect
		}
		if seq == expect {
			return
		} else if seq > expect {
			want = api.ErrAway
		}
		passes(t, l, packet.Packet{From: n, To: m.own, Seq: seq, Data: []byte("a")}, want)
	}
}

// acked acknowledges texts that were sent to a node, by a call or a packet.
func (m *model) acked(t *testing.T, r *rand.Rand, l *Links, n int) {
	t.Helper()
	s := m.links[n]
	seq, want, freed := 1+uint64(r.Intn(9)), api.ErrNone, 0
	if s != nil {
		first := s.next - uint64(len(s.texts))
		seq, want = max(1, first-min(first, 2)+uint64(r.Intn(len(s.texts)+4))), api.OK
		if seq >= s.next {
			want = api.ErrAway
		} else if seq >= first {
			freed = int(seq-first) + 1
			s.texts = s.texts[freed:]
		}
	}
	if r.Intn(2) == 0 {
		acks(t, l, n, seq, freed, want)
		return
	}
	passes(t, l, packet.Packet{Ack: true, From: n, To: m.own, Seq: seq}, want)
}

// TestAny: P17.1 to P17.5, whatever is done to links, also to some that go there and back on the way.
func TestAny(t *testing.T) {
	r := rand.New(rand.NewSource(1))
	longest := 0
	for range 60 {
		l, m := start(t, []int{1, 2, 5, 12}[r.Intn(4)])
		for range r.Intn(600) {
			m.step(t, r, l)
			has(t, l, m)
			for _, s := range m.links {
				longest = max(longest, len(s.texts))
			}
			if r.Intn(20) == 0 {
				l = read(t, m.raw())
				has(t, l, m)
			}
		}
	}
	if longest < 20 {
		t.Errorf("just %d texts wait: of little worth", longest)
	}
}

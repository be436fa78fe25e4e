package shard

import (
	"math"
	"slices"
	"testing"

	"trug/api"
	"trug/clock"
	"trug/label"
	"trug/link"
	"trug/msg"
	"trug/op"
	"trug/tree"
	"trug/wire"
)

// great is a tree of all nodes: the homes 1 and 6; the shards 2, 3, 7, 8 and 12; the serializers 4, 5 and 9 in a row; at 10 and 11 nobody.
func great() tree.Tree {
	return tree.Tree{Kinds: [12]int{1, 2, 2, 3, 3, 1, 2, 2, 3, 0, 0, 2}, Edges: []tree.Edge{
		{A: 1, B: 4}, {A: 2, B: 4}, {A: 4, B: 5}, {A: 3, B: 5}, {A: 6, B: 5}, {A: 7, B: 4}, {A: 8, B: 5}, {A: 5, B: 9}, {A: 9, B: 12},
	}}
}

// homeless is a tree without homes: the shards 1, 2 and 3 at the serializer 4.
func homeless() tree.Tree {
	return tree.Tree{Kinds: [12]int{2, 2, 2, 3}, Edges: []tree.Edge{{A: 4, B: 1}, {A: 4, B: 2}, {A: 4, B: 3}}}
}

// text is one that was not acknowledged.
type text struct {
	seq  uint64
	data []byte
}

// model is a shard by the words of the document. Its sellers, carts and nodes are counted from 1 on.
type model struct {
	node      int
	own       int // whose links they are; the node's, if it is right
	shards    []int
	neighbour int // to which its labels go; 0, if they go nowhere
	time      uint64
	state     [13]int
	peers     [13][]int
	events    []op.Event
	known     [13]api.Vector
	next      [13]uint64 // by nodes
	expect    [13]uint64
	queue     [13][]text
	asked     [13]uint64
	unclean   bool
}

// newModel is a shard to which nothing happened, of the great tree.
func newModel(node int) *model {
	m := &model{node: node, own: node, shards: []int{2, 3, 7, 8, 12}, neighbour: map[int]int{2: 4, 3: 5, 7: 4, 8: 5, 12: 9}[node]}
	for n := range m.next {
		m.next[n], m.expect[n] = 1, 1
	}
	return m
}

// isOne tells whether a number is a cart's, a seller's, a node's.
func isOne(n int) bool { return n >= 1 && n <= 12 }

// isOther tells whether a node is another shard.
func (m *model) isOther(n int) bool { return n != m.node && slices.Contains(m.shards, n) }

// has tells whether an event's dot is there, of its cart.
func (m *model) has(x op.Event) bool {
	return slices.ContainsFunc(m.events, func(y op.Event) bool {
		return y.Label.Cart == x.Label.Cart && label.Dot(y.Label) == label.Dot(x.Label)
	})
}

// of is a seller's events, in order.
func (m *model) of(seller int) []op.Event {
	var list []op.Event
	for _, x := range m.events {
		if x.Label.Seller == seller {
			list = append(list, x)
		}
	}
	key := func(x op.Event) []int { return []int{x.Label.Cart, x.Label.Node, int(x.Label.N)} }
	slices.SortFunc(list, func(a, b op.Event) int { return slices.Compare(key(a), key(b)) })
	return list
}

// come lets an event come that is not there.
func (m *model) come(x op.Event) {
	m.events = append(m.events, x)
	m.known[x.Label.Cart] = clock.Join(m.known[x.Label.Cart], label.Past(x.Label))
	m.time = max(m.time, x.Label.Time)
}

// purge lets a seller's events be gone.
func (m *model) purge(seller int) {
	m.events = slices.DeleteFunc(m.events, func(x op.Event) bool { return x.Label.Seller == seller })
}

// room tells whether so many texts may be sent.
func (m *model) room(to, count int) bool {
	return len(m.queue[to])+count <= 250 && m.next[to]+uint64(count)-1 <= 1<<40
}

// rooms tells whether a text may be sent to each.
func (m *model) rooms(nodes []int) bool {
	for _, n := range nodes {
		if !m.room(n, 1) {
			return false
		}
	}
	return true
}

// tell sends a message.
func (m *model) tell(to int, x msg.Msg) {
	b, e := msg.Write(x)
	if e != api.OK {
		panic("no message")
	}
	m.queue[to] = append(m.queue[to], text{m.next[to], b})
	m.next[to]++
}

// acked lets texts up to one be acknowledged.
func (m *model) acked(to int, seq uint64) {
	m.queue[to] = slices.DeleteFunc(m.queue[to], func(x text) bool { return x.seq <= seq })
}

// but is nodes without one.
func but(nodes []int, node int) []int {
	var list []int
	for _, n := range nodes {
		if n != node {
			list = append(list, n)
		}
	}
	return list
}

// do is Do by the words of the document, of carts that have homes.
func (m *model) do(cart, seller int, seen api.Vector, time uint64, o op.Op) (op.Event, api.Errno) {
	var toward []int
	if cart >= 1 && m.neighbour != 0 {
		toward = []int{m.neighbour}
	}
	if !isOne(seller) || m.state[seller] != 2 {
		return op.Event{}, api.ErrAway
	}
	if !m.rooms(m.peers[seller]) || !m.rooms(toward) {
		return op.Event{}, api.ErrBusy
	}
	if time > 1<<40 {
		return op.Event{}, api.ErrArg
	}
	x, e := m.make(max(m.time, time)+1, cart, seller, seen, o)
	if e != api.OK {
		return op.Event{}, e
	}
	if len(m.events) >= 200 {
		return op.Event{}, api.ErrFull
	}
	m.come(x)
	m.time = x.Label.Time
	for _, n := range m.peers[seller] {
		m.tell(n, msg.Hand(x))
	}
	for _, n := range toward {
		m.tell(n, msg.Of(x.Label))
	}
	return x, api.OK
}

// make is the store's Make by the words of the document.
func (m *model) make(time uint64, cart, seller int, seen api.Vector, o op.Op) (op.Event, api.Errno) {
	if !isOne(cart) {
		return op.Event{}, api.ErrCart
	}
	known := m.known[cart]
	own := known[m.node-1]
	if seen[m.node-1] > own || slices.Max(seen[:]) > 1<<20 {
		return op.Event{}, api.ErrArg
	}
	if own >= 1<<20 {
		return op.Event{}, api.ErrFull
	}
	l := label.Label{Time: time, Node: m.node, N: own + 1, Cart: cart, Seller: seller, Deps: clock.Join(seen, known)}
	if x := (op.Event{Label: l, Op: o}); op.Right(x) {
		return x, api.OK
	}
	return op.Event{}, api.ErrForm
}

// found is Found by the words of the document.
func (m *model) found(seller int) api.Errno {
	if !isOne(seller) {
		return api.ErrSeller
	}
	if m.state[seller] != 0 {
		return api.ErrTwice
	}
	m.state[seller] = 2
	return api.OK
}

// join is Join by the words of the document.
func (m *model) join(seller, source int) api.Errno {
	switch {
	case !m.isOther(source):
		return api.ErrNode
	case !m.room(source, 1):
		return api.ErrBusy
	case !isOne(seller):
		return api.ErrSeller
	case m.state[seller] != 0:
		return api.ErrTwice
	}
	m.state[seller], m.peers[seller] = 1, []int{source}
	m.tell(source, msg.Ask(4, seller))
	return api.OK
}

// leave is Leave by the words of the document.
func (m *model) leave(seller int) api.Errno {
	if !isOne(seller) {
		return api.ErrSeller
	}
	of := m.peers[seller]
	if len(of) == 1 && (!m.room(of[0], 1) || m.owes(seller, of[0])) {
		return api.ErrBusy
	}
	switch {
	case m.state[seller] == 0:
		return api.ErrNone
	case m.state[seller] != 2:
		return api.ErrBusy
	case len(of) != 1:
		return api.ErrState
	}
	m.state[seller], m.asked[seller] = 3, m.next[of[0]]
	m.tell(of[0], msg.Ask(7, seller))
	return api.OK
}

// owes tells whether a text to a node, but one, is an event of a seller.
func (m *model) owes(seller, but int) bool {
	for n, list := range m.queue {
		for _, x := range list {
			if y, e := msg.Read(x.data); n != but && e == api.OK && (y.Kind == 2 || y.Kind == 3) && y.Event.Label.Seller == seller {
				return true
			}
		}
	}
	return false
}

// may is May by the words of the document.
func (m *model) may(from int, x msg.Msg) api.Errno {
	if !msg.Right(x) {
		return api.ErrForm
	}
	if !m.isOther(from) {
		return api.ErrNode
	}
	seller := x.Seller + x.Event.Label.Seller // there is just one of both, or none
	state, peers := m.state[seller], m.peers[seller]
	comes := x.Kind == 2 && state != 0 || x.Kind == 3 && state == 1 && slices.Equal(peers, []int{from})
	isNew := comes && !m.has(x.Event)
	switch {
	case x.Kind == 2 && isNew && state == 2 && !m.rooms(but(peers, from)):
		return api.ErrBusy
	case x.Kind == 4 && !m.room(from, len(m.of(seller))+1):
		return api.ErrBusy
	case x.Kind == 7 && !m.room(from, 1):
		return api.ErrBusy
	case isNew && len(m.events) >= 200:
		return api.ErrFull
	}
	return api.OK
}

// hear is Hear by the words of the document.
func (m *model) hear(from int, x msg.Msg) api.Errno {
	if e := m.may(from, x); e != api.OK {
		return e
	}
	seller := x.Seller + x.Event.Label.Seller
	joins := m.state[seller] == 1 && slices.Equal(m.peers[seller], []int{from})
	leaves := m.state[seller] == 3 && slices.Equal(m.peers[seller], []int{from})
	switch {
	case x.Kind == 2 && m.state[seller] != 0 && !m.has(x.Event):
		m.come(x.Event)
		if m.state[seller] == 2 {
			for _, n := range but(m.peers[seller], from) {
				m.tell(n, msg.Hand(x.Event))
			}
		}
	case x.Kind == 3 && joins && !m.has(x.Event):
		m.come(x.Event)
	case x.Kind == 4:
		m.answerJoin(from, seller)
	case x.Kind == 5 && joins:
		m.state[seller] = 2
	case x.Kind == 6 && joins:
		m.state[seller], m.peers[seller] = 0, nil
		m.purge(seller)
	case x.Kind == 7 && m.state[seller] == 2 && slices.Contains(m.peers[seller], from):
		m.peers[seller] = but(m.peers[seller], from)
		m.tell(from, msg.Ask(8, seller))
	case x.Kind == 7:
		m.tell(from, msg.Ask(9, seller))
	case x.Kind == 8 && leaves:
		m.acked(from, m.asked[seller])
		m.state[seller], m.peers[seller], m.asked[seller] = 0, nil, 0
		m.purge(seller)
		m.unclean = true
	case x.Kind == 9 && leaves:
		m.state[seller], m.asked[seller] = 2, 0
	}
	return api.OK
}

// answerJoin answers who asks whether it may join.
func (m *model) answerJoin(from, seller int) {
	if m.state[seller] != 2 || slices.Contains(m.peers[seller], from) {
		m.tell(from, msg.Ask(6, seller))
		return
	}
	m.peers[seller] = append(slices.Clone(m.peers[seller]), from)
	slices.Sort(m.peers[seller])
	for _, x := range m.of(seller) {
		m.tell(from, msg.Part(x))
	}
	m.tell(from, msg.End(seller, len(m.of(seller))))
}

// raw is the bytes that the document gives a shard.
func (m *model) raw() []byte {
	w := wire.New().Num(m.time).Num(uint64(m.node))
	for seller := 1; seller <= 12; seller++ {
		w.Num(uint64(m.state[seller])).Num(uint64(len(m.peers[seller])))
		for _, n := range m.peers[seller] {
			w.Num(uint64(n))
		}
	}
	for cart := 1; cart <= 12; cart++ {
		w.Vector(m.known[cart])
	}
	w.Num(uint64(len(m.events)))
	for seller := 1; seller <= 12; seller++ {
		for _, x := range m.of(seller) {
			op.Put(w, x)
		}
	}
	m.rawLinks(w)
	for seller := 1; seller <= 12; seller++ {
		w.Num(m.asked[seller])
	}
	if m.unclean {
		return w.Num(1).Bytes()
	}
	return w.Num(0).Bytes()
}

// rawLinks writes the bytes that the document gives links.
func (m *model) rawLinks(w *wire.Writer) {
	var to []int
	for n := 1; n <= 12; n++ {
		if m.next[n] > 1 || m.expect[n] > 1 {
			to = append(to, n)
		}
	}
	w.Num(uint64(m.own)).Num(uint64(len(to)))
	for _, n := range to {
		w.Num(uint64(n)).Num(m.next[n]).Num(uint64(len(m.queue[n])))
		for _, x := range m.queue[n] {
			w.Text(x.data)
		}
		w.Num(m.expect[n])
	}
}

// numbers is the carts', sellers' and nodes' numbers, and such as are none's.
func numbers() []int {
	list := []int{0, -1, 13, 14, math.MinInt, math.MaxInt, 1 << 32, 1<<32 + 1, 1<<32 + 12, -12}
	for n := 1; n <= 12; n++ {
		list = append(list, n)
	}
	return list
}

// put is the bytes of a shard.
func put(s *Shard) []byte {
	w := wire.New()
	s.Put(w)
	return w.Bytes()
}

// has asks all that a shard tells, and its bytes.
func has(t *testing.T, s *Shard, m *model) {
	t.Helper()
	if s.Time() != m.time || s.Unclean() != m.unclean || s.Peers().Node() != m.node || s.Links().Own() != m.node {
		t.Fatalf("Time %d, %v, not %d, %v", s.Time(), s.Unclean(), m.time, m.unclean)
	}
	for n := 1; n <= 12; n++ {
		if s.Peers().State(n) != m.state[n] || !slices.Equal(s.Peers().Of(n), m.peers[n]) {
			t.Fatalf("the seller %d: %d %v, not %d %v", n, s.Peers().State(n), s.Peers().Of(n), m.state[n], m.peers[n])
		}
		if !slices.EqualFunc(s.Store().Events(n), m.of(n), op.Same) {
			t.Fatalf("Events(%d): %v, not %v", n, s.Store().Events(n), m.of(n))
		}
		if s.Store().Known(n) != m.known[n] {
			t.Fatalf("Known(%d): %v, not %v", n, s.Store().Known(n), m.known[n])
		}
		same := func(a link.Item, b text) bool { return a.Seq == b.seq && string(a.Data) == string(b.data) }
		if !slices.EqualFunc(s.Links().Queue(n), m.queue[n], same) {
			t.Fatalf("Queue(%d): %v, not %v", n, s.Links().Queue(n), m.queue[n])
		}
	}
	if b := put(s); string(b) != string(m.raw()) {
		t.Fatalf("Put: %x, not %x", b, m.raw())
	}
}

// start is a shard of the great tree to which nothing happened, and its model.
func start(t *testing.T, node int) (*Shard, *model) {
	t.Helper()
	s, e := New(great(), node)
	if s == nil || e != api.OK {
		t.Fatalf("New: %v %v", s, e)
	}
	m := newModel(node)
	has(t, s, m)
	return s, m
}

// both is a shard, and its model: what one is asked, the other one is asked, too.
type both struct {
	t *testing.T
	s *Shard
	m *model
}

// begin is a shard of the great tree to which nothing happened.
func begin(t *testing.T, node int) *both {
	t.Helper()
	s, m := start(t, node)
	return &both{t, s, m}
}

// same asks whether shard and model tell the same, and whether that is what is wanted.
func (b *both) same(what string, got, model api.Errno, want ...api.Errno) {
	b.t.Helper()
	if got != model || len(want) > 0 && got != want[0] {
		b.t.Fatalf("%s: %v, not %v, not %v", what, got, model, want)
	}
}

// do asks for an event.
func (b *both) do(cart, seller int, seen api.Vector, time uint64, o op.Op, want ...api.Errno) op.Event {
	b.t.Helper()
	x, e := b.s.Do(cart, seller, seen, time, o)
	y, f := b.m.do(cart, seller, seen, time, o)
	b.same("Do", e, f, want...)
	if !op.Same(x, y) {
		b.t.Fatalf("Do: %v, not %v", x, y)
	}
	return x
}

// found, join, leave and hear are these calls.
func (b *both) found(seller int, want ...api.Errno) {
	b.t.Helper()
	b.same("Found", b.s.Found(seller), b.m.found(seller), want...)
}

func (b *both) join(seller, source int, want ...api.Errno) {
	b.t.Helper()
	b.same("Join", b.s.Join(seller, source), b.m.join(seller, source), want...)
}

func (b *both) leave(seller int, want ...api.Errno) {
	b.t.Helper()
	b.same("Leave", b.s.Leave(seller), b.m.leave(seller), want...)
}

func (b *both) hear(from int, x msg.Msg, want ...api.Errno) {
	b.t.Helper()
	b.same("May", b.s.May(from, x), b.m.may(from, x), want...)
	b.same("Hear", b.s.Hear(from, x), b.m.hear(from, x), want...)
}

// acked lets texts up to one be acknowledged.
func (b *both) acked(to int, seq uint64) {
	b.s.Links().Acked(to, seq)
	b.m.acked(to, seq)
}

// ackedAll lets all texts be acknowledged.
func (b *both) ackedAll() {
	for n := 1; n <= 12; n++ {
		b.acked(n, b.m.next[n]-1)
	}
}

// send sends texts that are no messages, so many.
func (b *both) send(to, count int) {
	b.t.Helper()
	for range count {
		if _, e := b.s.Links().Send(to, []byte{0}); e != api.OK {
			b.t.Fatalf("Send to %d: %v", to, e)
		}
		b.m.queue[to] = append(b.m.queue[to], text{b.m.next[to], []byte{0}})
		b.m.next[to]++
	}
}

// has asks all that the shard tells.
func (b *both) has() {
	b.t.Helper()
	has(b.t, b.s, b.m)
}

// queued asks which messages wait for a node.
func (b *both) queued(to int, want ...msg.Msg) {
	b.t.Helper()
	b.has()
	var got []msg.Msg
	for _, x := range b.s.Links().Queue(to) {
		m, _ := msg.Read(x.Data)
		got = append(got, m)
	}
	if !slices.EqualFunc(got, want, msg.Same) {
		b.t.Fatalf("to %d: %v, not %v", to, got, want)
	}
}

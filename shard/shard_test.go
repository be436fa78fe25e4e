package shard

import (
	"math"
	"testing"

	"trug/api"
	"trug/clock"
	"trug/label"
	"trug/lines"
	"trug/msg"
	"trug/op"
	"trug/tree"
	"trug/wire"
)

// add is an op that may be.
var add = op.Op{Kind: 1, Sku: 5, Qty: 2}

// unseen is the vector of those who saw nothing.
var unseen api.Vector

// at is an event of a cart and a seller, at a time: the Nth one of a node.
func at(time uint64, cart, seller, node int, n uint32) op.Event {
	l := label.Label{Time: time, Node: node, N: n, Cart: cart, Seller: seller}
	l.Deps[node-1] = n - 1
	return op.Event{Label: l, Op: add}
}

// TestNew: P24.1, shards of a tree, to which nothing happened; others are none.
func TestNew(t *testing.T) {
	for n := -1; n <= 14; n++ {
		s, e := New(great(), n)
		switch n {
		case 2, 3, 7, 8, 12:
			start(t, n)
		default:
			if s != nil || e != api.ErrNode {
				t.Errorf("New, node %d: %v %v", n, s, e)
			}
		}
	}
	for _, n := range []int{math.MinInt, math.MaxInt, 1<<32 + 2} {
		if s, e := New(great(), n); s != nil || e != api.ErrNode {
			t.Errorf("New, node %d: %v %v", n, s, e)
		}
	}
	for what, x := range map[string]tree.Tree{
		"an edge is missing":    {Kinds: great().Kinds, Edges: great().Edges[1:]},
		"an edge twice":         {Kinds: great().Kinds, Edges: append(great().Edges, great().Edges[0])},
		"two shards, no edge":   {Kinds: [12]int{0, 2, 2}},
		"a shard with a shard":  {Kinds: [12]int{0, 2, 2}, Edges: []tree.Edge{{A: 2, B: 3}}},
		"a shard alone":         {Kinds: [12]int{0, 2}},
		"the kind 4":            {Kinds: [12]int{0, 2, 3, 4}, Edges: []tree.Edge{{A: 2, B: 3}}},
		"an edge to nobody":     {Kinds: [12]int{0, 2, 3}, Edges: []tree.Edge{{A: 2, B: 12}}},
		"an edge to the node 0": {Kinds: [12]int{0, 2, 3}, Edges: []tree.Edge{{A: 2, B: 0}}},
	} {
		for _, n := range []int{2, 3, 1, 0, 13} { // ErrForm is the first one
			if s, e := New(x, n); s != nil || e != api.ErrForm {
				t.Errorf("New, %s, node %d: %v %v", what, n, s, e)
			}
		}
	}
	if s, e := New(tree.Tree{}, 2); s != nil || e != api.ErrNode {
		t.Errorf("New, nobody is there: %v %v", s, e)
	}
}

// TestNil: P24.1 and P1, of nil, and of a shard that no call made.
func TestNil(t *testing.T) {
	for _, s := range []*Shard{nil, {}, new(Shard)} {
		s.Soil()                                // of which nothing is to be seen
		for _, n := range []int{0, 3, 13, -1} { // ErrNil is ahead of all
			for what, e := range map[string]api.Errno{
				"Found": s.Found(n), "Join": s.Join(n, n), "Leave": s.Leave(n),
				"May": s.May(n, msg.Ask(n, n)), "Hear": s.Hear(n, msg.Ask(4, n)),
			} {
				if e != api.ErrNil {
					t.Errorf("%s: %v", what, e)
				}
			}
			if x, e := s.Do(n, n, unseen, math.MaxUint64, add); !op.Same(x, op.Event{}) || e != api.ErrNil {
				t.Errorf("Do: %v %v", x, e)
			}
			if l, e := s.Lines(n, n, []clock.Dot{{Node: n}}, unseen, unseen); len(l) != 0 || e != api.ErrNil {
				t.Errorf("Lines: %v %v", l, e)
			}
		}
		s.Load(nil)
		if e := wire.Read([]byte{1}, s.Load); e != api.ErrLong { // nothing is read
			t.Errorf("Load: %v", e)
		}
		s.Put(nil)
		if s.Time() != 0 || s.Peers() != nil || s.Store() != nil || s.Links() != nil || s.Unclean() || len(put(s)) != 0 {
			t.Errorf("%v", s)
		}
		s.Clean()
	}
}

// TestHanded: P24.1 and the rules 4 and 5, peers, store and links are the shard's own; the tree is not.
func TestHanded(t *testing.T) {
	x := great()
	s, e := New(x, 2)
	if e != api.OK {
		t.Fatalf("New: %v", e)
	}
	b := &both{t, s, newModel(2)}
	for i := range x.Edges {
		x.Edges[i] = tree.Edge{}
	}
	p, all, l := s.Peers(), s.Store(), s.Links()
	b.found(3, api.OK)
	p.Asked(3, 7)
	b.m.peers[3] = []int{7}
	b.do(1, 3, unseen, 4, add, api.OK)
	b.send(12, 3)
	b.has()
	if p.State(3) != 2 || all.Len() != 1 || len(l.Queue(4)) != 1 || len(l.Queue(7)) != 1 {
		t.Errorf("%v %v %v", p, all, l)
	}
	if p != s.Peers() || all != s.Store() || l != s.Links() {
		t.Errorf("others are handed out")
	}
}

// TestUnclean: P24.1, it is as it is told.
func TestUnclean(t *testing.T) {
	b := begin(t, 2)
	for range 2 {
		b.s.Soil()
		b.s.Soil()
		b.m.unclean = true
		b.has()
		b.s.Clean()
		b.m.unclean = false
		b.has()
		b.s.Clean()
		b.has()
	}
}

// TestDo: P24.2, the document's example: an event, and its label for the serializer; peers are told it, too.
func TestDo(t *testing.T) {
	b := begin(t, 12)
	b.found(3, api.OK)
	x := b.do(1, 3, unseen, 4, add, api.OK)
	if x.Label != (label.Label{Time: 5, Node: 12, N: 1, Cart: 1, Seller: 3}) {
		t.Errorf("Do: %v", x)
	}
	b.queued(9, msg.Of(x.Label))
	b.hear(8, msg.Ask(4, 3), api.OK)
	b.hear(2, msg.Ask(4, 3), api.OK)
	y := b.do(1, 3, api.Vector{7}, 2, op.Op{Kind: 6, Sku: 1, Price: math.NaN()}, api.OK)
	if y.Label != (label.Label{Time: 6, Node: 12, N: 2, Cart: 1, Seller: 3, Deps: api.Vector{7, 11: 1}}) {
		t.Errorf("Do: %v", y)
	}
	b.queued(9, msg.Of(x.Label), msg.Of(y.Label))
	b.queued(8, msg.Part(x), msg.End(3, 1), msg.Hand(y))
	b.queued(2, msg.Part(x), msg.End(3, 1), msg.Hand(y))
	b.found(4, api.OK)
	z := b.do(12, 4, unseen, api.MaxTime-1, add, api.OK) // of another seller: the peers are not told
	b.queued(9, msg.Of(x.Label), msg.Of(y.Label), msg.Of(z.Label))
	b.queued(8, msg.Part(x), msg.End(3, 1), msg.Hand(y))
	b.do(12, 4, unseen, 0, add, api.ErrForm) // there is no Time behind it
	b.do(12, 4, unseen, api.MaxTime, add, api.ErrForm)
	b.has()
}

// TestDoHomeless: P24.2, without homes a label goes nowhere, peers are told all the same.
func TestDoHomeless(t *testing.T) {
	s, e := New(homeless(), 2)
	if e != api.OK {
		t.Fatalf("New: %v", e)
	}
	b := &both{t, s, &model{node: 2, own: 2, shards: []int{1, 2, 3}}}
	for n := range b.m.next {
		b.m.next[n], b.m.expect[n] = 1, 1
	}
	b.found(1, api.OK)
	b.send(4, 250) // to the serializer nothing goes
	b.do(1, 1, unseen, 0, add, api.OK)
	b.hear(4, msg.Ask(4, 1), api.ErrNode)
	b.hear(3, msg.Ask(4, 1), api.OK)
	x := b.do(12, 1, unseen, 0, add, api.OK)
	if x.Label.Time != 2 {
		t.Errorf("Do: %v", x)
	}
	if queue := s.Links().Queue(3); len(queue) != 3 {
		t.Errorf("%v", queue)
	}
	b.has()
}

// TestDoFirst: P24.2, also where the serializer is the node 1.
func TestDoFirst(t *testing.T) {
	s, e := New(tree.Tree{Kinds: [12]int{3, 2, 1}, Edges: []tree.Edge{{A: 1, B: 2}, {A: 1, B: 3}}}, 2)
	if e != api.OK {
		t.Fatalf("New: %v", e)
	}
	s.Found(1)
	if x, e := s.Do(1, 1, unseen, 0, add); e != api.OK || len(s.Links().Queue(1)) != 1 {
		t.Errorf("Do: %v %v", x, e)
	}
}

// TestDoErrors: P24.2, of several errors the first one; nothing has changed.
func TestDoErrors(t *testing.T) {
	b := begin(t, 2)
	late := uint64(api.MaxTime + 1)
	tooMany := api.Vector{1: 1}
	for _, n := range numbers() {
		b.do(1, n, unseen, 0, add, api.ErrAway)
		b.do(n, n, tooMany, late, op.Op{}, api.ErrAway)
	}
	b.join(1, 3, api.OK)
	b.do(1, 1, unseen, 0, add, api.ErrAway) // it joins
	b.found(2, api.OK)
	b.hear(3, msg.Ask(4, 2), api.OK)
	b.leave(2, api.OK)
	b.do(1, 2, unseen, 0, add, api.ErrAway) // it leaves
	b.found(3, api.OK)
	for _, time := range []uint64{late, 1 << 63, math.MaxUint64} {
		b.do(1, 3, unseen, time, add, api.ErrArg)
		b.do(13, 3, tooMany, time, op.Op{}, api.ErrArg) // ahead of Make's errors
	}
	for _, n := range numbers() {
		if !isOne(n) {
			b.do(n, 3, unseen, 0, add, api.ErrCart)
			b.do(n, 3, tooMany, 0, op.Op{}, api.ErrCart)
			b.do(n, 3, tooMany, api.MaxTime, op.Op{}, api.ErrCart)
		}
	}
	b.do(1, 3, tooMany, 0, add, api.ErrArg)
	b.do(1, 3, tooMany, 0, op.Op{}, api.ErrArg)
	b.do(1, 3, api.Vector{11: api.MaxCount + 1}, 0, add, api.ErrArg)
	b.do(1, 3, unseen, 0, op.Op{}, api.ErrForm)
	b.do(1, 3, unseen, 0, op.Op{Kind: 1, Sku: 5}, api.ErrForm)
	b.has()
	b.do(1, 3, unseen, 0, add, api.OK)
	b.do(1, 3, tooMany, 0, add, api.OK) // now it is known
	b.has()
}

// TestDoCount: P24.2, a node's events of a cart are counted up to their limit.
func TestDoCount(t *testing.T) {
	b := begin(t, 2)
	b.found(3, api.OK)
	b.hear(7, msg.Hand(at(9, 1, 3, 2, api.MaxCount-1)), api.OK) // of its own node: it had forgotten
	x := b.do(1, 3, unseen, 0, add, api.OK)
	if x.Label.N != api.MaxCount || x.Label.Time != 10 {
		t.Errorf("Do: %v", x)
	}
	b.do(1, 3, unseen, 0, add, api.ErrFull)
	b.do(1, 3, unseen, 0, op.Op{}, api.ErrFull) // the next dot's error is ahead of the form's
	b.do(2, 3, unseen, 0, add, api.OK)
	b.has()
}

// TestDoBusy: P24.2, it must be able to tell all peers, and the serializer, ahead of all that is handed in.
func TestDoBusy(t *testing.T) {
	for _, full := range []int{4, 3, 7, 12} {
		b := begin(t, 2)
		b.found(3, api.OK)
		b.found(4, api.OK)
		for _, n := range []int{3, 7, 12} {
			b.hear(n, msg.Ask(4, 3), api.OK)
		}
		b.send(8, 250) // no peer
		b.send(full, 249-len(b.m.queue[full]))
		b.do(1, 3, unseen, 0, add, api.OK)
		b.do(1, 3, unseen, 0, add, api.ErrBusy)
		b.do(13, 3, api.Vector{1: 9}, math.MaxUint64, op.Op{}, api.ErrBusy)
		b.do(1, 5, unseen, 0, add, api.ErrAway)
		if full == 4 {
			b.do(1, 4, unseen, 0, add, api.ErrBusy)
			b.do(12, 4, unseen, math.MaxUint64, add, api.ErrBusy)
			b.do(0, 4, unseen, 0, add, api.ErrCart) // a label of no cart goes nowhere
			b.do(-1, 4, unseen, math.MaxUint64, add, api.ErrArg)
		} else {
			b.do(1, 4, unseen, 0, add, api.OK) // the seller 4 has no peers
			b.do(0, 3, unseen, 0, add, api.ErrBusy)
		}
		b.has()
		b.acked(full, 1)
		b.do(1, 3, unseen, 0, add, api.OK)
		b.do(1, 3, unseen, 0, add, api.ErrBusy)
		b.has()
	}
}

// TestDoFull: P24.2, a full store takes no event more, whatever was asked for otherwise.
func TestDoFull(t *testing.T) {
	b := begin(t, 2)
	b.found(3, api.OK)
	for i := range 200 {
		b.do(1+i%12, 3, unseen, 0, add, api.OK)
		if i%100 == 0 {
			b.ackedAll()
		}
	}
	b.do(1, 3, unseen, 0, add, api.ErrFull)
	b.do(1, 3, unseen, api.MaxTime-1, add, api.ErrFull)
	b.do(1, 3, unseen, 0, op.Op{}, api.ErrForm) // Make's errors are ahead
	b.do(13, 3, unseen, 0, add, api.ErrCart)
	b.do(1, 3, unseen, api.MaxTime+1, add, api.ErrArg)
	b.do(1, 4, unseen, 0, add, api.ErrAway)
	b.send(4, 250-len(b.m.queue[4]))
	b.do(1, 3, unseen, 0, add, api.ErrBusy)
	b.has()
}

// TestFound: P24.3, the peers' Found.
func TestFound(t *testing.T) {
	b := begin(t, 2)
	for _, n := range numbers() {
		if isOne(n) {
			b.found(n, api.OK)
			b.found(n, api.ErrTwice)
		} else {
			b.found(n, api.ErrSeller)
		}
	}
	b.has()
	b = begin(t, 2)
	b.join(3, 7, api.OK)
	b.found(3, api.ErrTwice)
	b.has()
}

// TestJoin: P24.3, the source is asked, if it is another shard, and may be told; of several errors the first one.
func TestJoin(t *testing.T) {
	b := begin(t, 2)
	for _, n := range numbers() {
		switch n {
		case 3, 7, 8, 12:
			for _, seller := range numbers() {
				if !isOne(seller) {
					b.join(seller, n, api.ErrSeller)
				}
			}
			b.join(n, n, api.OK)
			b.join(n, n, api.ErrTwice)
			b.queued(n, msg.Ask(4, n))
		default: // also itself, a home, a serializer, and one that is not there
			b.join(1, n, api.ErrNode)
			b.join(n, n, api.ErrNode)
			b.join(3, n, api.ErrNode)
		}
	}
	b.found(5, api.OK)
	b.join(5, 3, api.ErrTwice)
	b.send(3, 248)
	b.join(6, 3, api.OK)
	b.has()
	b.join(9, 3, api.ErrBusy)
	b.join(6, 3, api.ErrBusy) // ahead of the peers' errors
	b.join(13, 3, api.ErrBusy)
	b.join(9, 2, api.ErrNode)
	b.join(9, 7, api.OK)
	b.has()
}

// TestLeave: P24.3, the one peer is asked; the peers' errors.
func TestLeave(t *testing.T) {
	b := begin(t, 2)
	for _, n := range numbers() {
		if isOne(n) {
			b.leave(n, api.ErrNone)
		} else {
			b.leave(n, api.ErrSeller)
		}
	}
	b.found(3, api.OK)
	b.leave(3, api.ErrState)
	b.hear(7, msg.Ask(4, 3), api.OK)
	b.hear(12, msg.Ask(4, 3), api.OK)
	b.leave(3, api.ErrState)
	b.do(1, 3, unseen, 0, add, api.OK)
	b.leave(3, api.ErrState) // it has not just one peer, whatever waits
	b.hear(7, msg.Ask(7, 3), api.OK)
	b.ackedAll()
	b.do(1, 3, unseen, 0, add, api.OK) // the one peer did not acknowledge it, which does not matter
	b.leave(3, api.OK)
	if n := b.m.asked[3]; n != 4 {
		t.Errorf("asked by the text %d", n)
	}
	b.has()
	b.leave(3, api.ErrBusy)
	b.join(4, 7, api.OK)
	b.leave(4, api.ErrBusy)
	b.has()
}

// TestLeaveBusy: P24.3, it must be able to tell the one peer, ahead of all.
func TestLeaveBusy(t *testing.T) {
	b := begin(t, 2)
	b.found(3, api.OK)
	b.hear(7, msg.Ask(4, 3), api.OK)
	b.found(4, api.OK)
	b.send(7, 249)
	b.leave(3, api.ErrBusy)
	b.leave(4, api.ErrState) // it has no peer
	b.leave(5, api.ErrNone)
	b.leave(13, api.ErrSeller)
	b.has()
	b.hear(12, msg.Ask(4, 3), api.OK)
	b.leave(3, api.ErrState) // it has two peers
	b.acked(7, 1)
	b.hear(12, msg.Ask(7, 3), api.OK)
	b.leave(3, api.OK)
	b.has()
}

// TestLeaveOwes: P24.3 and P24.7, what another node did not acknowledge of the seller's events; what else waits does not matter.
func TestLeaveOwes(t *testing.T) {
	for _, part := range []bool{false, true} {
		b := begin(t, 2)
		b.found(3, api.OK)
		b.found(4, api.OK)
		b.hear(7, msg.Ask(4, 3), api.OK)
		b.hear(12, msg.Ask(4, 4), api.OK)
		b.do(1, 4, unseen, 0, add, api.OK) // of another seller
		b.send(12, 3)
		if part {
			b.do(1, 3, unseen, 0, add, api.OK)
			b.hear(12, msg.Ask(4, 3), api.OK)
		} else {
			b.hear(12, msg.Ask(4, 3), api.OK)
			b.do(1, 3, unseen, 0, add, api.OK)
		}
		b.send(12, 3)
		b.leave(3, api.ErrState)
		b.hear(12, msg.Ask(7, 3), api.OK)
		b.leave(3, api.ErrBusy)
		b.leave(3, api.ErrBusy)
		b.has()
		b.acked(12, 5) // up to the one ahead of it, or of the end
		b.leave(3, api.ErrBusy)
		b.acked(12, map[bool]uint64{true: 6, false: 7}[part])
		b.leave(3, api.OK) // though the label, and what 7 was told, still wait
		b.queued(7, b.message(7, 0), b.message(7, 1), msg.Ask(7, 3))
		if len(b.m.queue[4]) != 2 {
			t.Errorf("%v", b.m.queue[4])
		}
	}
}

// message is a message that waits.
func (b *both) message(to, i int) msg.Msg {
	b.t.Helper()
	m, e := msg.Read(b.m.queue[to][i].data)
	if e != api.OK {
		b.t.Fatalf("to %d, the text %d: %v", to, i, e)
	}
	return m
}

// TestLines: P24.5, the store's lines, if it is ready, and each dot is there of that cart and seller.
func TestLines(t *testing.T) {
	b := begin(t, 2)
	tells := func(cart, seller int, dots []clock.Dot, from, to api.Vector, want ...lines.Line) {
		t.Helper()
		if l, e := b.s.Lines(cart, seller, dots, from, to); e != api.OK || !lines.Same(l, want) {
			t.Errorf("Lines: %v %v, not %v", l, e, want)
		}
	}
	away := func(cart, seller int, dots ...clock.Dot) {
		t.Helper()
		if l, e := b.s.Lines(cart, seller, dots, unseen, api.Vector{9, 9, 9}); e != api.ErrAway || len(l) != 0 {
			t.Errorf("Lines: %v %v", l, e)
		}
	}
	for _, n := range numbers() {
		away(1, n)
	}
	b.join(3, 7, api.OK)
	away(1, 3)
	b.hear(7, msg.Part(at(5, 1, 3, 7, 1)), api.OK)
	away(1, 3)
	b.hear(7, msg.End(3, 1), api.OK)
	b.do(1, 3, unseen, 0, op.Op{Kind: 2, Sku: 5, Qty: -1}, api.OK)
	b.found(4, api.OK)
	b.do(1, 4, unseen, 0, add, api.OK)
	b.do(2, 3, unseen, 0, add, api.OK)
	all := api.Vector{6: 1, 1: 9}
	first, second, third := clock.Dot{Node: 7, N: 1}, clock.Dot{Node: 2, N: 1}, clock.Dot{Node: 2, N: 2}
	tells(1, 3, []clock.Dot{first, second}, unseen, all, lines.Line{Sku: 5, Qty: 1})
	tells(1, 3, []clock.Dot{second, second}, unseen, api.Vector{6: 1}, lines.Line{Sku: 5, Qty: 2})
	tells(1, 3, nil, unseen, all, lines.Line{Sku: 5, Qty: 1})
	tells(1, 3, []clock.Dot{first}, api.Vector{6: 1}, all)
	tells(1, 4, []clock.Dot{third}, unseen, all, lines.Line{Sku: 5, Qty: 2})
	tells(5, 4, nil, unseen, all)
	tells(0, 4, nil, unseen, all)
	tells(13, 4, nil, unseen, all)
	away(1, 3, third) // of another seller
	away(1, 4, first)
	away(2, 3, first) // of another cart
	away(1, 3, first, second, clock.Dot{Node: 2, N: 3})
	away(1, 3, clock.Dot{Node: 2, N: 3}, first)
	for _, n := range numbers() {
		away(1, 3, clock.Dot{Node: n})
		away(1, 3, first, clock.Dot{Node: n, N: math.MaxUint32})
		if !isOne(n) {
			away(n, 3, first)
			away(1, n)
		}
	}
	b.leave(3, api.OK)
	away(1, 3)
	away(1, 3, first)
	b.hear(7, msg.Ask(9, 3), api.OK)
	tells(1, 3, []clock.Dot{first, second}, unseen, all, lines.Line{Sku: 5, Qty: 1})
	b.has()
}

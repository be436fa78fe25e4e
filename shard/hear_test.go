package shard

import (
	"math"
	"slices"
	"testing"

	"trug/api"
	"trug/cuts"
	"trug/label"
	"trug/msg"
	"trug/op"
)

// isReady is a shard 2 that is ready for the seller 3, with these peers.
func isReady(t *testing.T, peers ...int) *both {
	t.Helper()
	b := begin(t, 2)
	b.found(3, api.OK)
	for _, n := range peers {
		b.hear(n, msg.Ask(4, 3), api.OK)
	}
	return b
}

// messages is one of each kind, of the seller 3.
func messages() []msg.Msg {
	list := []msg.Msg{msg.Of(at(9, 1, 3, 7, 1).Label), msg.Hand(at(9, 1, 3, 7, 1)), msg.Part(at(9, 1, 3, 7, 1))}
	for kind := 4; kind <= 9; kind++ {
		list = append(list, msg.Ask(kind, 3))
	}
	return append(list, msg.Say(1, 1, cuts.Stance{Has: true, Time: 5}))
}

// TestHearErrors: P24.4, of several errors the first one; May tells the same, and nothing has changed.
func TestHearErrors(t *testing.T) {
	b := isReady(t, 7)
	b.send(12, 250)
	for _, m := range []msg.Msg{{}, msg.Ask(4, 0), msg.Ask(4, 13), msg.Ask(3, 3), msg.Ask(11, 3), msg.Hand(op.Event{}), msg.Of(label.Label{}), {Kind: 4, Seller: 3, Count: 1}, {Kind: 7, Seller: -3}} {
		for _, n := range numbers() {
			b.hear(n, m, api.ErrForm)
		}
	}
	for _, n := range numbers() {
		if n != 3 && n != 7 && n != 8 && n != 12 { // also itself, its serializer, a home
			for _, m := range messages() {
				b.hear(n, m, api.ErrNode)
			}
		}
	}
	b.has()
}

// TestHearNothing: P24.4, labels and stances are nothing to a shard, nor is what a peer tells that is not due.
func TestHearNothing(t *testing.T) {
	b := isReady(t, 7)
	b.join(5, 8, api.OK)
	b.found(6, api.OK)
	for _, m := range messages() {
		if m.Kind == 2 || m.Kind == 4 || m.Kind == 7 {
			continue
		}
		for _, n := range []int{3, 7, 8, 12} {
			for _, seller := range []int{2, 3, 5, 6} {
				if m.Kind > 3 && m.Kind < 10 {
					m.Seller = seller
				}
				if m.Kind == 3 {
					m.Event.Label.Seller = seller
				}
				if seller == 5 && n == 8 && m.Kind != 1 && m.Kind != 10 {
					continue // it joins that one through it
				}
				was := put(b.s)
				b.hear(n, m, api.OK)
				if string(put(b.s)) != string(was) {
					t.Fatalf("from %d, %v: it changed", n, m)
				}
			}
		}
	}
	b.has()
}

// TestHand: P24.4 and P24.8, what is handed on comes, and all peers but the one that told it are told, once.
func TestHand(t *testing.T) {
	b := isReady(t, 7, 12, 3)
	x, y, z := at(9, 1, 3, 7, 1), at(4, 2, 3, 8, 1), at(300, 1, 4, 7, 2)
	b.ackedAll()
	b.hear(7, msg.Hand(x), api.OK)
	b.queued(7)
	b.queued(3, msg.Hand(x))
	b.queued(12, msg.Hand(x))
	if b.s.Time() != 9 {
		t.Errorf("Time: %d", b.s.Time())
	}
	b.hear(8, msg.Hand(y), api.OK) // from one that is no peer
	b.queued(7, msg.Hand(y))
	b.queued(3, msg.Hand(x), msg.Hand(y))
	b.queued(12, msg.Hand(x), msg.Hand(y))
	b.queued(8)
	if b.s.Time() != 9 {
		t.Errorf("Time: %d", b.s.Time())
	}
	for _, n := range []int{3, 7, 8, 12} { // they come no more
		b.hear(n, msg.Hand(x), api.OK)
		b.hear(n, msg.Hand(y), api.OK)
		b.hear(n, msg.Hand(z), api.OK) // it does not subscribe to the seller 4
	}
	b.queued(7, msg.Hand(y))
	b.queued(12, msg.Hand(x), msg.Hand(y))
	b.queued(4) // no label
	other := x
	other.Label.Time, other.Op.Sku = 500, 7 // another one with its dot
	b.hear(12, msg.Hand(other), api.OK)
	other.Label.Seller = 4
	b.found(4, api.OK)
	b.hear(12, msg.Hand(other), api.OK)
	if b.s.Time() != 9 || b.s.Store().Len() != 2 {
		t.Errorf("%d %d", b.s.Time(), b.s.Store().Len())
	}
	b.queued(3, msg.Hand(x), msg.Hand(y))
}

// TestHandWaits: P24.4, while it joins, or leaves, what is handed on comes, and nobody is told.
func TestHandWaits(t *testing.T) {
	b := begin(t, 2)
	b.join(3, 7, api.OK)
	b.hear(7, msg.Hand(at(9, 1, 3, 7, 1)), api.OK)
	b.hear(8, msg.Hand(at(7, 1, 3, 8, 1)), api.OK)
	b.queued(7, msg.Ask(4, 3))
	b.queued(8)
	b.hear(7, msg.End(3, 0), api.OK)
	b.leave(3, api.OK)
	b.hear(7, msg.Hand(at(12, 2, 3, 7, 1)), api.OK)
	b.hear(12, msg.Hand(at(7, 1, 3, 12, 1)), api.OK)
	b.queued(7, msg.Ask(4, 3), msg.Ask(7, 3))
	if b.s.Time() != 12 || b.s.Store().Len() != 4 {
		t.Errorf("%d %d", b.s.Time(), b.s.Store().Len())
	}
}

// TestHandBusy: P24.4, one of the other peers may not be told: just if there is something to tell.
func TestHandBusy(t *testing.T) {
	b := isReady(t, 7, 12)
	x, y := at(9, 1, 3, 7, 1), at(9, 2, 3, 7, 1)
	b.hear(7, msg.Hand(x), api.OK)
	b.send(12, 250-len(b.m.queue[12]))
	b.send(8, 250)
	b.has()
	b.hear(7, msg.Hand(y), api.ErrBusy)
	b.hear(8, msg.Hand(y), api.ErrBusy)
	b.has()
	b.hear(7, msg.Hand(x), api.OK)                  // it is there
	b.hear(7, msg.Hand(at(9, 2, 4, 7, 1)), api.OK)  // it does not subscribe to that one
	b.hear(7, msg.Part(y), api.OK)                  // it does not join
	b.hear(12, msg.Hand(at(9, 3, 3, 7, 1)), api.OK) // of whom it comes may not be told, but is not
	b.queued(7, msg.End(3, 0), msg.Hand(at(9, 3, 3, 7, 1)))
	b.join(5, 7, api.OK)
	b.hear(12, msg.Hand(at(9, 4, 5, 7, 1)), api.OK) // it joins, so nobody is told
	b.acked(12, 1)
	b.hear(7, msg.Hand(y), api.OK)
	b.hear(7, msg.Hand(at(9, 2, 3, 7, 2)), api.ErrBusy)
	b.has()
}

// TestFull: P24.4, an event more than there may be; what does not come is none.
func TestFull(t *testing.T) {
	b := isReady(t, 7, 12)
	b.join(5, 8, api.OK)
	for n := range uint32(200) {
		b.hear(7, msg.Hand(at(9, 1, 3, 7, n+1)), api.OK)
		b.acked(12, b.m.next[12]-1)
	}
	x := at(9, 2, 3, 7, 1)
	b.hear(7, msg.Hand(x), api.ErrFull)
	b.hear(8, msg.Hand(at(9, 2, 5, 7, 1)), api.ErrFull)
	b.hear(8, msg.Part(at(9, 2, 5, 7, 1)), api.ErrFull)
	b.has()
	b.hear(7, msg.Part(at(9, 2, 5, 7, 1)), api.OK) // not through that one
	b.hear(8, msg.Part(x), api.OK)                 // nor that one's
	b.hear(7, msg.Hand(at(9, 2, 4, 7, 1)), api.OK)
	b.hear(7, msg.Hand(at(9, 1, 3, 7, 200)), api.OK) // it is there
	b.hear(7, msg.Hand(at(9, 1, 5, 7, 200)), api.OK)
	b.hear(8, msg.Part(at(9, 1, 5, 7, 1)), api.OK)
	b.hear(8, msg.End(5, 0), api.OK)
	b.send(12, 250)
	b.hear(7, msg.Hand(x), api.ErrBusy) // ahead of it
	b.has()
}

// TestAskedToJoin: P24.4, who may join is told all events of the seller, in order, and the end; others that they may not.
func TestAskedToJoin(t *testing.T) {
	b := isReady(t, 7)
	b.found(4, api.OK)
	list := []op.Event{at(9, 1, 3, 7, 1), at(9, 1, 3, 7, 2), at(4, 1, 3, 8, 1), at(9, 2, 3, 3, 1), at(5, 12, 3, 7, 1)}
	for _, i := range []int{4, 1, 3, 0, 2} {
		b.hear(7, msg.Hand(list[i]), api.OK)
	}
	b.do(2, 4, unseen, 0, add, api.OK)
	b.hear(12, msg.Ask(4, 3), api.OK)
	var want []msg.Msg
	for _, x := range list {
		want = append(want, msg.Part(x))
	}
	want = append(want, msg.End(3, 5))
	b.queued(12, want...)
	b.hear(12, msg.Ask(4, 3), api.OK) // a peer already
	want = append(want, msg.Ask(6, 3))
	b.queued(12, want...)
	b.hear(12, msg.Ask(4, 5), api.OK) // it does not subscribe
	want = append(want, msg.Ask(6, 5))
	b.queued(12, want...)
	b.join(6, 8, api.OK)
	b.hear(12, msg.Ask(4, 6), api.OK) // it is not ready
	b.hear(8, msg.Ask(4, 6), api.OK)
	b.queued(12, append(want, msg.Ask(6, 6))...)
	b.queued(8, msg.Ask(4, 6), msg.Ask(6, 6))
	b.hear(12, msg.Ask(7, 3), api.OK)
	b.leave(3, api.ErrBusy)
	b.acked(12, 5)
	b.leave(3, api.OK)
	b.hear(12, msg.Ask(4, 3), api.OK) // it leaves
	b.queued(12, append(want[5:], msg.Ask(6, 6), msg.Ask(8, 3), msg.Ask(6, 3))...)
}

// TestAskedBusy: P24.4, there must be room for all events, and the end, whatever it would tell.
func TestAskedBusy(t *testing.T) {
	b := isReady(t, 7)
	for n := range uint32(5) {
		b.hear(7, msg.Hand(at(9, 1, 3, 7, n+1)), api.OK)
	}
	b.send(12, 245)
	b.hear(12, msg.Ask(4, 3), api.ErrBusy)
	b.has()
	b.acked(12, 1)
	b.hear(12, msg.Ask(4, 3), api.OK)
	if len(b.m.queue[12]) != 250 {
		t.Errorf("%d", len(b.m.queue[12]))
	}
	b.hear(12, msg.Ask(4, 3), api.ErrBusy)
	b.hear(12, msg.Ask(4, 5), api.ErrBusy) // it would tell just that it may not
	b.hear(12, msg.Ask(7, 3), api.ErrBusy)
	b.hear(12, msg.Ask(7, 5), api.ErrBusy)
	b.acked(12, 6)
	b.hear(12, msg.Ask(4, 3), api.ErrBusy) // it would tell just that it may not
	b.acked(12, 7)
	b.hear(12, msg.Ask(4, 3), api.OK)
	b.has()
	b.send(12, 250-len(b.m.queue[12]))
	b.acked(12, b.m.queue[12][0].seq)
	b.hear(12, msg.Ask(4, 5), api.OK)
	b.acked(12, b.m.queue[12][0].seq)
	b.hear(12, msg.Ask(7, 3), api.OK)
	b.hear(12, msg.Ask(7, 3), api.ErrBusy)
	b.has()
}

// TestJoins: P24.4, it hears all events of the one through which it joins, and is ready then.
func TestJoins(t *testing.T) {
	b := begin(t, 2)
	b.join(3, 7, api.OK)
	x, y := at(9, 1, 3, 7, 1), at(4, 2, 3, 8, 1)
	b.hear(8, msg.Part(x), api.OK) // it does not join through that one
	if b.s.Store().Len() != 0 {
		t.Errorf("Len: %d", b.s.Store().Len())
	}
	b.hear(7, msg.Part(x), api.OK)
	b.hear(7, msg.Part(x), api.OK)
	b.hear(7, msg.Part(y), api.OK)
	b.hear(7, msg.Part(at(99, 3, 4, 7, 1)), api.OK) // of another seller
	if b.s.Time() != 9 || b.s.Store().Len() != 2 {
		t.Errorf("%d %d", b.s.Time(), b.s.Store().Len())
	}
	b.hear(12, msg.End(3, 2), api.OK)
	b.has()
	b.hear(7, msg.End(3, 200), api.OK) // whatever the count
	b.has()
	if b.s.Peers().State(3) != 2 || !slices.Equal(b.s.Peers().Of(3), []int{7}) {
		t.Errorf("%v", b.s.Peers())
	}
	b.hear(7, msg.Part(at(99, 3, 3, 7, 1)), api.OK) // it joins no more
	b.hear(7, msg.Ask(6, 3), api.OK)
	b.queued(7, msg.Ask(4, 3))
	if b.s.Time() != 9 || b.s.Store().Len() != 2 {
		t.Errorf("%d %d", b.s.Time(), b.s.Store().Len())
	}
}

// TestRefused: P24.4 and P24.1, who may not join has no events of the seller any more, and is not unclean by that.
func TestRefused(t *testing.T) {
	b := isReady(t)
	b.do(4, 3, unseen, 50, add, api.OK)
	b.join(5, 7, api.OK)
	b.join(6, 7, api.OK)
	b.hear(7, msg.Part(at(90, 1, 5, 7, 1)), api.OK)
	b.hear(8, msg.Hand(at(9, 1, 5, 8, 1)), api.OK)
	b.hear(7, msg.Part(at(9, 2, 6, 7, 1)), api.OK)
	b.hear(8, msg.Ask(6, 5), api.OK) // it does not ask that one
	b.hear(7, msg.Ask(6, 3), api.OK) // nor for that one
	if b.s.Store().Len() != 4 {
		t.Errorf("Len: %d", b.s.Store().Len())
	}
	b.has()
	b.hear(7, msg.Ask(6, 5), api.OK)
	if b.s.Store().Len() != 2 || b.s.Peers().State(5) != 0 || b.s.Peers().State(6) != 1 || b.s.Unclean() || b.s.Time() != 90 {
		t.Errorf("%v", b.s)
	}
	b.has()
	b.join(5, 8, api.OK)
	b.hear(8, msg.End(5, 0), api.OK)
	b.do(1, 5, unseen, 0, add, api.OK) // what was known stays
	if v := b.s.Store().Known(1); v != (api.Vector{1: 1, 6: 1, 7: 1}) {
		t.Errorf("Known: %v", v)
	}
	b.has()
	b.s.Soil()
	b.m.unclean = true
	b.hear(7, msg.Ask(6, 6), api.OK) // nor is it clean by that
	b.has()
}

// TestAskedToLeave: P24.4, who asks is told whether it may leave.
func TestAskedToLeave(t *testing.T) {
	b := isReady(t, 7, 12)
	b.ackedAll()
	b.hear(7, msg.Ask(7, 3), api.OK)
	b.queued(7, msg.Ask(8, 3))
	if !slices.Equal(b.s.Peers().Of(3), []int{12}) || b.s.Peers().State(3) != 2 {
		t.Errorf("%v", b.s.Peers())
	}
	b.hear(7, msg.Ask(7, 3), api.OK) // a peer no more
	b.queued(7, msg.Ask(8, 3), msg.Ask(9, 3))
	b.hear(8, msg.Ask(7, 3), api.OK) // no peer
	b.hear(8, msg.Ask(7, 5), api.OK)
	b.queued(8, msg.Ask(9, 3), msg.Ask(9, 5))
	b.leave(3, api.OK)
	b.hear(12, msg.Ask(7, 3), api.OK) // both leave: both stay (21)
	b.queued(12, msg.Ask(7, 3), msg.Ask(9, 3))
	b.hear(12, msg.Ask(9, 3), api.OK)
	if !slices.Equal(b.s.Peers().Of(3), []int{12}) || b.s.Peers().State(3) != 2 {
		t.Errorf("%v", b.s.Peers())
	}
	b.has()
	b.hear(12, msg.Ask(7, 3), api.OK)
	b.found(4, api.OK)
	b.do(1, 3, unseen, 0, add, api.OK) // without peers, it goes on
	b.has()
}

// TestLeaves: P24.4, P24.7 and P24.1, who may leave has nothing of the seller any more, and is unclean.
func TestLeaves(t *testing.T) {
	b := isReady(t, 7)
	b.found(4, api.OK)
	b.hear(7, msg.Ask(4, 4), api.OK)
	b.hear(8, msg.Ask(4, 4), api.OK)
	b.do(1, 3, unseen, 5, add, api.OK)
	x := b.do(2, 4, unseen, 0, add, api.OK)
	b.leave(3, api.OK)
	y := b.do(2, 4, unseen, 0, add, api.OK)
	b.hear(8, msg.Ask(8, 3), api.OK) // it does not leave through that one
	b.hear(8, msg.Ask(9, 3), api.OK)
	b.hear(7, msg.Ask(8, 4), api.OK) // nor that one
	b.hear(7, msg.Ask(9, 4), api.OK)
	if b.s.Unclean() || b.s.Peers().State(3) != 3 || b.s.Store().Len() != 3 {
		t.Errorf("%v", b.s)
	}
	b.has()
	b.hear(7, msg.Ask(8, 3), api.OK)
	if !b.s.Unclean() || b.s.Peers().State(3) != 0 || b.s.Store().Len() != 2 {
		t.Errorf("%v", b.s)
	}
	b.queued(7, msg.Hand(y)) // all that was told ahead came to it
	b.queued(8, msg.End(4, 0), msg.Hand(x), msg.Hand(y))
	b.s.Clean()
	b.m.unclean = false
	b.hear(7, msg.Ask(8, 3), api.OK) // it leaves no more
	b.hear(7, msg.Ask(9, 3), api.OK)
	b.has()
	b.join(3, 8, api.OK)
	b.hear(8, msg.End(3, 0), api.OK)
	z := b.do(1, 3, unseen, 0, add, api.OK)
	if z.Label.N != 2 {
		t.Errorf("%v: twice one dot", z)
	}
	b.has()
}

// TestLeavesEmpty: P24.4, who left a seller is unclean, whether it had events of it or not.
func TestLeavesEmpty(t *testing.T) {
	b := isReady(t, 7)
	b.leave(3, api.OK)
	b.hear(7, msg.Ask(8, 3), api.OK)
	b.queued(7)
	if !b.s.Unclean() {
		t.Errorf("it is clean")
	}
}

// TestLeavesTwo: P24.4 and P24.6, of each seller that it leaves the number of its own text; one that stays has none.
func TestLeavesTwo(t *testing.T) {
	for _, order := range [][2]int{{3, 4}, {4, 3}} {
		for _, kinds := range [][2]int{{8, 8}, {8, 9}, {9, 8}, {9, 9}} {
			b := isReady(t, 7)
			b.found(4, api.OK)
			b.hear(7, msg.Ask(4, 4), api.OK)
			b.do(1, 4, unseen, 5, add, api.OK)
			b.leave(3, api.OK)
			b.send(7, 1)
			b.leave(4, api.OK)
			b.send(7, 1)
			b.has()
			for i, seller := range order {
				b.hear(7, msg.Ask(kinds[i], seller), api.OK)
				b.has()
			}
			for i, seller := range order {
				if kinds[i] == 9 {
					b.leave(seller, api.OK) // again, by another text
				}
				b.has()
			}
		}
	}
}

// TestSends: P24.2 to P24.4, where a link's numbers end nothing more may be sent, however much room there is.
func TestSends(t *testing.T) {
	near := func(to int, last uint64) *both {
		b := isReady(t, 7)
		b.ackedAll()
		b.m.next[to] = last
		return b.again()
	}
	const end = uint64(api.MaxTime)
	b := near(7, end)
	b.do(1, 3, unseen, 0, add, api.OK)
	b.ackedAll()
	b.do(1, 3, unseen, 0, add, api.ErrBusy)
	b.leave(3, api.ErrBusy)
	b.join(4, 7, api.ErrBusy)
	b.hear(7, msg.Ask(4, 4), api.ErrBusy)
	b.hear(7, msg.Ask(7, 3), api.ErrBusy)
	b.hear(8, msg.Hand(at12()), api.ErrBusy)
	b.hear(7, msg.Hand(at12()), api.OK)
	b.has()
	b = near(4, end+1)
	b.do(1, 3, unseen, 0, add, api.ErrBusy)
	b.do(0, 3, unseen, 0, add, api.ErrCart)
	b.has()
	b = near(8, end-1)
	b.do(1, 3, unseen, 0, add, api.OK)
	b.do(1, 3, unseen, 0, add, api.OK)
	b.hear(8, msg.Ask(4, 3), api.ErrBusy) // two events, and the end
	b.hear(8, msg.Ask(4, 4), api.OK)
	b.hear(8, msg.Ask(7, 3), api.OK)
	b.hear(8, msg.Ask(7, 3), api.ErrBusy)
	b.has()
	b = near(8, end-2)
	b.do(1, 3, unseen, 0, add, api.OK)
	b.do(1, 3, unseen, 0, add, api.OK)
	b.hear(8, msg.Ask(4, 3), api.OK)
	b.hear(8, msg.Ask(4, 4), api.ErrBusy)
	b.has()
	b = near(7, end)
	b.leave(3, api.OK)
	b.has()
	b.hear(7, msg.Ask(8, 3), api.OK)
	b.queued(7)
}

// at12 is an event of the node 12, at the seller 3.
func at12() op.Event { return at(9, 9, 3, 12, 1) }

// again is the shard that is read from the model's bytes.
func (b *both) again() *both {
	b.t.Helper()
	s, e := New(great(), b.m.node)
	if e != api.OK {
		b.t.Fatalf("New: %v", e)
	}
	if e := load(s, b.m.raw()); e != api.OK {
		b.t.Fatalf("Load of %x: %v", b.m.raw(), e)
	}
	b.s = s
	b.has()
	return b
}

// TestGreatTime: P24.4, Time is at least that of what comes, whatever that is.
func TestGreatTime(t *testing.T) {
	b := isReady(t)
	b.hear(7, msg.Hand(at(api.MaxTime, 1, 3, 7, 1)), api.OK)
	b.do(1, 3, unseen, 0, add, api.ErrForm)
	b.do(1, 3, unseen, math.MaxUint64, add, api.ErrArg)
	if b.s.Time() != api.MaxTime {
		t.Errorf("Time: %d", b.s.Time())
	}
	b.has()
}

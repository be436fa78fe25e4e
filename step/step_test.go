package step

import (
	"math"
	"testing"

	"trug/api"
	"trug/home"
	"trug/input"
	"trug/label"
	"trug/links"
	"trug/msg"
	"trug/op"
	"trug/packet"
	"trug/shard"
	"trug/state"
	"trug/tree"
)

// great is a tree of all kinds: the homes 1 and 6; the shards 2, 3 and 12; the serializers 4, 5 and 9 in a row; at the others nobody.
func great() tree.Tree {
	return tree.Tree{Kinds: [12]int{1, 2, 2, 3, 3, 1, 0, 0, 3, 0, 0, 2}, Edges: []tree.Edge{
		{A: 1, B: 4}, {A: 2, B: 4}, {A: 4, B: 5}, {A: 3, B: 5}, {A: 5, B: 9}, {A: 9, B: 6}, {A: 12, B: 9},
	}}
}

// nodes is its nodes.
func nodes() []int { return []int{1, 2, 3, 4, 5, 6, 9, 12} }

// add is an op.
var add = op.Op{Kind: 1, Sku: 5, Qty: 2}

// orderOf, foundOf, joinOf, leaveOf, checkoutOf and packetOf are inputs.
func orderOf(cart, seller int, seen api.Vector, time uint64, o op.Op) input.Input {
	return input.Input{Kind: 1, Cart: cart, Seller: seller, Seen: seen, Time: time, Op: o}
}

func foundOf(seller int) input.Input { return input.Input{Kind: 2, Seller: seller} }

func joinOf(seller, node int) input.Input { return input.Input{Kind: 3, Seller: seller, Node: node} }

func leaveOf(seller int) input.Input { return input.Input{Kind: 4, Seller: seller} }

func checkoutOf(cart int, seen api.Vector, time uint64) input.Input {
	return input.Input{Kind: 5, Cart: cart, Seen: seen, Time: time}
}

func packetOf(p packet.Packet) input.Input { return input.Input{Kind: 6, Packet: p} }

// text is the packet of a message, ack that of an acknowledgement.
func text(from, to int, seq uint64, m msg.Msg) input.Input {
	b, _ := msg.Write(m)
	return packetOf(packet.Packet{From: from, To: to, Seq: seq, Data: b})
}

func ack(from, to int, seq uint64) input.Input {
	return packetOf(packet.Packet{Ack: true, From: from, To: to, Seq: seq})
}

// of is the Nth event's label of a node, for a cart, at the seller 3.
func of(node, cart int, n uint32) label.Label {
	l := label.Label{Time: uint64(n) + 6, Node: node, N: n, Cart: cart, Seller: 3}
	l.Deps[node-1] = n - 1
	return l
}

// made is a state to which nothing happened.
func made(t *testing.T, node int) *state.State {
	t.Helper()
	s, e := state.New(great(), node)
	if e != api.OK {
		t.Fatalf("New: %v", e)
	}
	return s
}

// does lets an input happen, and asks whether it is idle, what it tells, and that nothing changes by what is idle, or refused.
func does(t *testing.T, s *state.State, x input.Input, idle bool, want api.Errno) Reply {
	t.Helper()
	before := string(s.Save())
	if is := Idle(s, x); is != idle {
		t.Fatalf("Idle of %v: %v", x, is)
	}
	if string(s.Save()) != before {
		t.Fatalf("%v: Idle changed something", x)
	}
	r := Do(s, x)
	if r.Err != want {
		t.Fatalf("Do of %v: %v, not %v", x, r.Err, want)
	}
	if r.Err != api.OK && !Same(r, Reply{Err: r.Err}) {
		t.Fatalf("Do of %v: %v", x, r)
	}
	if changed := string(s.Save()) != before; changed == (idle || r.Err != api.OK) {
		t.Fatalf("%v: changed: %v", x, changed)
	}
	return r
}

// inputs is one of each kind, that may be.
func inputs() []input.Input {
	return []input.Input{
		orderOf(1, 3, api.Vector{}, 0, add), foundOf(3), joinOf(3, 3), leaveOf(3), checkoutOf(1, api.Vector{}, 0),
		text(4, 1, 1, msg.Of(of(2, 1, 1))), text(3, 2, 1, msg.Ask(4, 3)), text(3, 5, 1, msg.Of(of(3, 1, 1))), ack(4, 1, 1), packetOf(packet.Packet{From: 1, To: 2, Seq: 1, Data: []byte{0}}),
	}
}

// wrong is inputs that may not be.
func wrong() []input.Input {
	far := ack(4, 1, 1)
	far.Seller = 1
	return []input.Input{
		{}, {Kind: 7}, {Kind: -1}, {Kind: math.MaxInt}, {Kind: 1}, {Kind: 5}, {Kind: 6}, foundOf(0), foundOf(13), leaveOf(-1), joinOf(3, 0), joinOf(3, 13), joinOf(0, 3), checkoutOf(0, api.Vector{}, 0),
		checkoutOf(13, api.Vector{}, 0), checkoutOf(1, api.Vector{}, api.MaxTime+1), checkoutOf(1, api.Vector{api.MaxCount + 1}, 0), orderOf(1, 3, api.Vector{}, 0, op.Op{}), orderOf(1, 3, api.Vector{}, api.MaxTime+1, add),
		orderOf(0, 3, api.Vector{}, 0, add), orderOf(1, 13, api.Vector{}, 0, add), far, ack(1, 1, 1), ack(0, 1, 1), ack(4, 1, 0), ack(4, 13, 1), ack(4, 1, api.MaxTime+1),
		packetOf(packet.Packet{From: 4, To: 1, Seq: 1}), packetOf(packet.Packet{From: 4, To: 1, Seq: 1, Data: make([]byte, 1801)}), packetOf(packet.Packet{Ack: true, From: 4, To: 1, Seq: 1, Data: []byte{1}}),
	}
}

// TestNil: P28.1, P28.2 and P1, of states that are nil, or that no call made.
func TestNil(t *testing.T) {
	for _, s := range []*state.State{nil, {}, new(state.State)} {
		for _, x := range append(inputs(), wrong()...) { // ahead of all other errors
			if r := Do(s, x); !Same(r, Reply{Err: api.ErrNil}) || !Idle(s, x) {
				t.Errorf("%v: %v %v", x, r, Idle(s, x))
			}
		}
	}
}

// TestEmptied: P1, no call panics of states whose parts were overwritten by such as no call made.
func TestEmptied(t *testing.T) {
	for _, n := range []int{1, 2, 5} {
		for what := range 2 {
			s := made(t, n)
			switch {
			case what == 0:
				*s.Links() = links.Links{}
			case n == 1:
				*s.Home() = home.Home{}
			case n == 2:
				*s.Shard() = shard.Shard{}
			default:
				*s.Links() = *must(links.New(7)) // another node's
			}
			for _, x := range append(inputs(), wrong()...) {
				Idle(s, x)
				Do(s, x)
			}
		}
	}
}

// must is what a call made.
func must[T any](x T, e api.Errno) T {
	if e != api.OK {
		panic(e)
	}
	return x
}

// TestErrors: P28.1, ErrForm of what may not be, at each node; ErrNode of what is asked at a node of another kind. What may not be is idle, what is refused is not, but packets.
func TestErrors(t *testing.T) {
	for _, n := range nodes() {
		s := made(t, n)
		for _, x := range wrong() {
			does(t, s, x, true, api.ErrForm)
		}
		for _, x := range inputs()[:5] {
			if s.Kind() == 3 || (s.Kind() == 1) != (x.Kind == 5) {
				does(t, s, x, false, api.ErrNode)
			}
		}
		for _, x := range inputs()[5:] {
			if x.Packet.To != n {
				does(t, s, x, true, api.ErrNode)
			}
		}
	}
}

// TestOrder: P28.1, orders happen as the shard says, and what it tells is the reply.
func TestOrder(t *testing.T) {
	s, twin := made(t, 2), must(shard.New(great(), 2))
	twin.Found(3)
	if r := does(t, s, foundOf(3), false, api.OK); !Same(r, Reply{}) {
		t.Errorf("found: %v", r)
	}
	for _, x := range []input.Input{
		orderOf(1, 3, api.Vector{}, 0, add), orderOf(1, 3, api.Vector{0, 1, 7}, 40, op.Op{Kind: 6, Sku: 4, Price: math.Copysign(0, -1)}),
		orderOf(12, 3, api.Vector{9}, 3, op.Op{Kind: 4}), orderOf(1, 4, api.Vector{}, 0, add), orderOf(1, 3, api.Vector{0, 3}, 0, add), orderOf(1, 3, api.Vector{}, api.MaxTime, add),
	} {
		want, e := twin.Do(x.Cart, x.Seller, x.Seen, x.Time, x.Op)
		if r := does(t, s, x, false, e); !Same(r, Reply{Err: e, Event: want}) {
			t.Errorf("%v: %v, not %v", x, r, want)
		}
	}
	if s.Shard().Time() != 42 || s.Shard().Store().Len() != 3 || len(s.Links().Queue(4)) != 3 {
		t.Errorf("%d %d %d", s.Shard().Time(), s.Shard().Store().Len(), len(s.Links().Queue(4)))
	}
	for range 247 {
		s.Links().Send(4, []byte{0})
	}
	does(t, s, orderOf(1, 3, api.Vector{}, 0, add), false, api.ErrBusy)
}

// TestSellers: P28.1, foundings, joinings and leavings happen as the shard says.
func TestSellers(t *testing.T) {
	s := made(t, 2)
	does(t, s, foundOf(3), false, api.OK)
	does(t, s, foundOf(3), false, api.ErrTwice)
	does(t, s, leaveOf(3), false, api.ErrState)
	does(t, s, leaveOf(4), false, api.ErrNone)
	does(t, s, joinOf(3, 12), false, api.ErrTwice)
	for _, n := range []int{1, 2, 4, 7} {
		does(t, s, joinOf(4, n), false, api.ErrNode)
	}
	does(t, s, joinOf(4, 12), false, api.OK)
	does(t, s, text(12, 2, 1, msg.End(4, 0)), false, api.OK)
	if p := s.Shard().Peers(); p.State(3) != 2 || p.State(4) != 2 || p.Of(4)[0] != 12 {
		t.Errorf("%d %d %v", p.State(3), p.State(4), p.Of(4))
	}
	does(t, s, leaveOf(4), false, api.OK)
	does(t, s, leaveOf(4), false, api.ErrBusy)
	if s.Shard().Peers().State(4) != 3 || len(s.Links().Queue(12)) != 2 {
		t.Errorf("%d %v", s.Shard().Peers().State(4), s.Links().Queue(12))
	}
}

// TestCheckout: P28.1, checkouts happen as the home says: the reply tells the round.
func TestCheckout(t *testing.T) {
	s, twin := made(t, 1), must(home.New(great(), 1))
	does(t, s, checkoutOf(1, api.Vector{}, 5), false, api.ErrNone)
	for n := uint32(1); n < 3; n++ {
		does(t, s, text(4, 1, uint64(n), msg.Of(of(2, 1, n))), false, api.OK)
		twin.Hear(4, msg.Of(of(2, 1, n)))
	}
	for _, x := range []input.Input{checkoutOf(1, api.Vector{0, 3}, 0), checkoutOf(1, api.Vector{0, 2}, 50), checkoutOf(1, api.Vector{}, 0), checkoutOf(2, api.Vector{}, 0)} {
		round, e := twin.Checkout(x.Cart, x.Seen, x.Time)
		if r := does(t, s, x, false, e); !Same(r, Reply{Err: e, Round: round}) || e == api.OK && r.Round != 1 {
			t.Errorf("%v: %v, not %d", x, r, round)
		}
	}
	does(t, s, text(6, 1, 1, msg.Msg{Kind: 10, Cart: 1, Round: 1}), false, api.OK)
	if c := s.Home().Cuts(1).Cuts(); len(c) != 1 || c[0].Time != 51 || c[0].Home != 1 {
		t.Errorf("Cuts: %v", c)
	}
	does(t, s, text(4, 1, 3, msg.Of(of(2, 1, 3))), false, api.OK)
	if r := does(t, s, checkoutOf(1, api.Vector{}, 0), false, api.OK); r.Round != 2 {
		t.Errorf("the next one: %v", r)
	}
}

// TestSame: P28.1, replies are equal in all their parts, Prices by their bits.
func TestSame(t *testing.T) {
	price := func(f float64) Reply { return Reply{Event: op.Event{Op: op.Op{Kind: 6, Sku: 1, Price: f}}} }
	bits := func(n uint64) Reply { return price(math.Float64frombits(n)) }
	all := []Reply{
		{}, {Err: api.ErrBusy}, {Err: api.ErrNode}, {Round: 1}, {Round: 2}, {Round: -1}, {Event: op.Event{Label: of(2, 1, 1)}}, {Event: op.Event{Label: of(2, 1, 2)}}, {Event: op.Event{Op: add}},
		price(0), price(math.Copysign(0, -1)), price(1), bits(0x7FF8000000000001), bits(0x7FF8000000000002), bits(0xFFF8000000000001), {Err: api.ErrBusy, Round: 1},
	}
	for i, a := range all {
		for j, b := range all {
			if Same(a, b) != (i == j) {
				t.Errorf("Same(%v, %v): %v", a, b, Same(a, b))
			}
		}
	}
}

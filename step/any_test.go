package step

import (
	"math"
	"math/rand"
	"testing"

	"trug/api"
	"trug/cuts"
	"trug/input"
	"trug/msg"
	"trug/op"
	"trug/packet"
	"trug/state"
	"trug/tree"
)

// next is the number of the next text that a state takes from a node.
func next(s *state.State, from int) uint64 {
	if p, is := s.Links().Ack(from); is {
		return p.Seq + 1
	}
	return 1
}

// words lets an input happen by the words of the document: the reply, and whether it is idle.
func words(s *state.State, x input.Input) (Reply, bool) {
	var r Reply
	switch {
	case !input.Right(x):
		return Reply{Err: api.ErrForm}, true
	case x.Kind == 6:
		e, idle := wordsOf(s, x.Packet)
		return Reply{Err: e}, idle
	case x.Kind == 5 && s.Kind() != 1 || x.Kind < 5 && s.Kind() != 2:
		return Reply{Err: api.ErrNode}, false
	case x.Kind == 1:
		r.Event, r.Err = s.Shard().Do(x.Cart, x.Seller, x.Seen, x.Time, x.Op)
	case x.Kind == 2:
		r.Err = s.Shard().Found(x.Seller)
	case x.Kind == 3:
		r.Err = s.Shard().Join(x.Seller, x.Node)
	case x.Kind == 4:
		r.Err = s.Shard().Leave(x.Seller)
	case x.Kind == 5:
		r.Round, r.Err = s.Home().Checkout(x.Cart, x.Seen, x.Time)
	}
	return r, false
}

// wordsOf lets a packet come by the words of the document.
func wordsOf(s *state.State, p packet.Packet) (api.Errno, bool) {
	if p.To != s.Node() {
		return api.ErrNode, true
	}
	if p.Ack {
		before := len(s.Links().Queue(p.From))
		_, _, e := s.Links().Hear(p)
		return e, len(s.Links().Queue(p.From)) == before
	}
	m, e := msg.Read(p.Data)
	if e != api.OK {
		return api.ErrForm, true
	}
	if p.Seq != next(s, p.From) {
		_, _, e := s.Links().Hear(p)
		return e, true
	}
	if e := s.May(p.From, m); e != api.OK {
		return e, true
	}
	s.Links().Hear(p)
	return s.Hear(p.From, m), false
}

// anyOf is one of a list.
func anyOf(r *rand.Rand, list ...int) int { return list[r.Intn(len(list))] }

// anyMessage is a message; one of many may not be.
func anyMessage(r *rand.Rand) msg.Msg {
	l := of(anyOf(r, 2, 3, 12), anyOf(r, 1, 2, 12), uint32(1+r.Intn(20)))
	l.Seller, l.Time = anyOf(r, 3, 3, 4, r.Intn(14)), uint64(1+r.Intn(99))
	x := op.Event{Label: l, Op: op.Op{Kind: 6, Sku: 1, Price: []float64{0, math.Copysign(0, -1), math.NaN(), 2}[r.Intn(4)]}}
	switch r.Intn(8) {
	case 0, 1:
		return msg.Of(l)
	case 2:
		return msg.Hand(x)
	case 3:
		return msg.Part(x)
	case 4:
		return msg.End(3, r.Intn(3))
	case 5:
		s := cuts.Stance{Has: true, Time: uint64(1 + r.Intn(99)), Cut: api.Vector{0, uint32(r.Intn(4))}}
		return msg.Say(anyOf(r, 1, 2, 12), 1+r.Intn(3), []cuts.Stance{s, {}}[r.Intn(2)])
	}
	return msg.Ask(anyOf(r, 4, 4, 6, 7, 7, 8, 9), anyOf(r, 3, 3, 4, r.Intn(14)))
}

// senders is the nodes that have something to tell a state.
func senders(s *state.State) []int {
	switch s.Kind() {
	case 1:
		return append(tree.Next(great(), s.Node()), 7-s.Node())
	case 2:
		return []int{2, 3, 12}
	}
	return tree.Next(great(), s.Node())
}

// anyPacket is a packet for a state; most are the next ones.
func anyPacket(r *rand.Rand, s *state.State) packet.Packet {
	p := packet.Packet{From: anyOf(r, senders(s)...), To: s.Node()}
	if r.Intn(5) == 0 {
		p.From = anyOf(r, nodes()...)
	}
	if r.Intn(40) == 0 {
		p.From, p.To = r.Intn(14), r.Intn(14)
	}
	if r.Intn(3) == 0 {
		p.Ack = true
		if q := s.Links().Queue(p.From); len(q) > 0 {
			p.Seq = q[0].Seq + uint64(r.Intn(8))
		}
		p.Seq = p.Seq + uint64(r.Intn(3)) - 1
		return p
	}
	p.Seq = next(s, p.From)
	if r.Intn(4) == 0 {
		p.Seq = p.Seq + uint64(r.Intn(4)) - 2
	}
	p.Data, _ = msg.Write(anyMessage(r))
	if r.Intn(30) == 0 {
		p.Data = append(p.Data, byte(r.Intn(3)))
	}
	return p
}

// anyInput is an input for a state.
func anyInput(r *rand.Rand, s *state.State) input.Input {
	seller, time := anyOf(r, 3, 3, 4, r.Intn(14)), uint64(r.Intn(300))
	var seen api.Vector
	if r.Intn(5) == 0 {
		seen[anyOf(r, s.Node()-1, r.Intn(12))] = uint32(r.Intn(9))
	}
	kind := 6
	if r.Intn(3) == 0 {
		kind = anyOf(r, 1, 1, 1, 2, 3, 3, 4, 5, 5)
	}
	x := input.Input{Kind: kind}
	switch kind {
	case 1:
		x = orderOf(anyOf(r, 1, 2, 12, r.Intn(14)), seller, seen, time, op.Op{Kind: 1 + r.Intn(3), Sku: r.Intn(5), Qty: 1})
		if x.Op.Kind == 3 {
			x.Op.Qty = 0
		}
	case 2:
		x.Seller = seller
	case 3:
		x.Seller, x.Node = seller, anyOf(r, 2, 3, 12, r.Intn(14))
	case 4:
		x.Seller = seller
	case 5:
		x = checkoutOf(anyOf(r, 1, 2, 12, r.Intn(14)), seen, time)
	case 6:
		x = packetOf(anyPacket(r, s))
	}
	return x
}

// filled is a state of which the links to a node are full.
func filled(s *state.State, to int) {
	for s.Links().Room(to) > 0 {
		s.Links().Send(to, []byte{0})
	}
}

// TestAny: P28.1 to P28.4, whatever happens: what comes of it, and what stands there, is what the document says; what is idle, or refused, changes nothing; the same again makes the same.
func TestAny(t *testing.T) {
	r := rand.New(rand.NewSource(1))
	seen := map[api.Errno]int{}
	idle := 0
	for run := range 200 {
		node := nodes()[run%8]
		s, twin, third := made(t, node), made(t, node), made(t, node)
		if s.Kind() == 2 {
			does(t, s, foundOf(3), false, api.OK)
			words(twin, foundOf(3))
			Do(third, foundOf(3))
		}
		for range 300 {
			x := anyInput(r, s)
			want, is := words(twin, x)
			if got := does(t, s, x, is, want.Err); !Same(got, want) {
				t.Fatalf("%v: %v, not %v", x, got, want)
			}
			if again := Do(third, x); !Same(again, want) { // without asking Idle
				t.Fatalf("%v, again: %v, not %v", x, again, want)
			}
			if a, b, c := string(s.Save()), string(twin.Save()), string(third.Save()); a != b || a != c {
				t.Fatalf("%v: %x, not %x, %x", x, a, b, c)
			}
			seen[want.Err]++
			if is {
				idle++
			}
			switch r.Intn(150) {
			case 0:
				s = must(state.Load(great(), node, s.Save()))
			case 1:
				to := anyOf(r, 3, 5, 6, 9)
				filled(s, to)
				filled(twin, to)
				filled(third, to)
			}
		}
	}
	for _, e := range []api.Errno{api.OK, api.ErrForm, api.ErrNode, api.ErrNone, api.ErrAway, api.ErrBusy, api.ErrTwice, api.ErrArg} {
		if seen[e] < 50 {
			t.Errorf("%v: %d, of little worth", e, seen[e])
		}
	}
	if idle < 10000 {
		t.Errorf("%d: of little worth", idle)
	}
}

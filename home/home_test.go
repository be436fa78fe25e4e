package home

import (
	"math"
	"slices"
	"testing"

	"trug/api"
	"trug/clock"
	"trug/cuts"
	"trug/label"
	"trug/msg"
	"trug/op"
	"trug/tree"
	"trug/wire"
)

// unseen is the vector of those who saw nothing.
var unseen api.Vector

// at is a label of a cart and a seller, at a time: the Nth one of a node.
func at(time uint64, cart, seller, node int, n uint32) label.Label {
	l := label.Label{Time: time, Node: node, N: n, Cart: cart, Seller: seller}
	l.Deps[node-1] = n - 1
	return l
}

// pro is a stance that proposes.
func pro(time uint64, v ...uint32) cuts.Stance {
	s := cuts.Stance{Has: true, Time: time}
	copy(s.Cut[:], v)
	return s
}

// promise is the stance that does not propose.
var promise cuts.Stance

// others is messages of all kinds that a home does not hear.
func others() []msg.Msg {
	x := op.Event{Label: at(900, 3, 4, 2, 1), Op: op.Op{Kind: 1, Sku: 5, Qty: 2}}
	return []msg.Msg{msg.Hand(x), msg.Part(x), msg.Ask(4, 3), msg.End(3, 7), msg.Ask(6, 3), msg.Ask(7, 3), msg.Ask(8, 3), msg.Ask(9, 3)}
}

// TestNew: P25.1, homes of a tree, to which nothing happened; others are none.
func TestNew(t *testing.T) {
	for node := -1; node <= 14; node++ {
		h, e := New(great(), node)
		switch node {
		case 1, 6, 10:
			start(t, node)
		default:
			if h != nil || e != api.ErrNode {
				t.Errorf("New, node %d: %v %v", node, h, e)
			}
		}
	}
	for _, node := range []int{2, 12, 3} {
		start(t, node)
	}
	for _, node := range []int{math.MinInt, math.MaxInt, 1<<32 + 1} {
		if h, e := New(great(), node); h != nil || e != api.ErrNode {
			t.Errorf("New, node %d: %v %v", node, h, e)
		}
	}
	if h, e := New(tree.Tree{}, 1); h != nil || e != api.ErrNode {
		t.Errorf("New, nobody is there: %v %v", h, e)
	}
}

// TestNewWrong: P25.1, of trees that may not be there are no homes, whatever the node.
func TestNewWrong(t *testing.T) {
	for what, x := range map[string]tree.Tree{
		"an edge is missing":  {Kinds: great().Kinds, Edges: great().Edges[1:]},
		"an edge twice":       {Kinds: great().Kinds, Edges: append(great().Edges, great().Edges[0])},
		"two homes, no edge":  {Kinds: [12]int{1, 1}},
		"a home with a home":  {Kinds: [12]int{1, 1}, Edges: []tree.Edge{{A: 1, B: 2}}},
		"a home alone":        {Kinds: [12]int{1}},
		"the kind 4":          {Kinds: [12]int{1, 3, 4}, Edges: []tree.Edge{{A: 1, B: 2}}},
		"an edge to nobody":   {Kinds: [12]int{1, 3}, Edges: []tree.Edge{{A: 1, B: 12}}},
		"a home at two nodes": {Kinds: [12]int{1, 3, 3}, Edges: []tree.Edge{{A: 1, B: 2}, {A: 1, B: 3}}},
	} {
		for _, node := range []int{1, 2, 3, 0, 13} {
			if h, e := New(x, node); h != nil || e != api.ErrForm {
				t.Errorf("New, %s, node %d: %v %v", what, node, h, e)
			}
		}
	}
}

// TestNil: P25.1 and P1, of nil, and of a home that no call made.
func TestNil(t *testing.T) {
	for _, h := range []*Home{nil, {}, new(Home)} {
		for _, n := range numbers() { // ErrNil is ahead of all
			for _, x := range append(others(), msg.Of(at(1, 1, 1, 1, 1)), msg.Say(1, 1, pro(1)), msg.Msg{}) {
				if e := h.May(n, x); e != api.ErrNil {
					t.Errorf("May: %v", e)
				}
				if e := h.Hear(n, x); e != api.ErrNil {
					t.Errorf("Hear: %v", e)
				}
			}
			if k, e := h.Checkout(n, unseen, math.MaxUint64); k != 0 || e != api.ErrNil {
				t.Errorf("Checkout: %v %v", k, e)
			}
			if v, e := h.View(n, api.Vector{1}, n); v.Vector != unseen || v.From != unseen || len(v.Cuts) != 0 || e != api.ErrNil {
				t.Errorf("View: %v %v", v, e)
			}
			if h.Index(n) != nil || h.Cuts(n) != nil || len(h.Parts(n, unseen, api.Vector{1})) != 0 {
				t.Errorf("%v", h)
			}
		}
		h.Load(nil)
		if e := wire.Read([]byte{1}, h.Load); e != api.ErrLong { // nothing is read
			t.Errorf("Load: %v", e)
		}
		h.Put(nil)
		if h.Time() != 0 || h.Links() != nil || len(put(h)) != 0 {
			t.Errorf("%v", h)
		}
	}
}

// TestCarts: P25.1, whatever the number, of a cart whose home it is not there is nothing.
func TestCarts(t *testing.T) {
	for _, node := range []int{1, 6, 10, 2, 12, 3} {
		b := begin(t, node)
		for _, cart := range numbers() {
			_, is := b.m.carts[cart]
			if is != (b.h.Index(cart) != nil) || is != (b.h.Cuts(cart) != nil) {
				t.Errorf("the home %d, the cart %d: %v", node, cart, is)
			}
			want := api.ErrCart
			if is {
				want = api.ErrNone
			}
			b.checkout(cart, unseen, 0, want)
			b.parts(cart, unseen, api.Vector{9, 9})
			if !is {
				b.view(cart, unseen, 0, api.ErrCart)
			}
		}
		b.has()
	}
}

// TestHanded: P25.1 and the rules 4 and 5, links, indexes and tables are the home's own, and stay so; the tree is not.
func TestHanded(t *testing.T) {
	x := great()
	h, e := New(x, 1)
	if e != api.OK {
		t.Fatalf("New: %v", e)
	}
	b := &both{t, h, newModel(1, othersOf(1))}
	for i := range x.Edges {
		x.Edges[i] = tree.Edge{}
	}
	l, i, u := h.Links(), h.Index(3), h.Cuts(3)
	b.hear(4, msg.Of(at(7, 3, 2, 2, 1)), api.OK)
	b.checkout(3, unseen, 0, api.OK)
	b.send(5, 2)
	b.has()
	if _, is := u.Own(); !is || len(i.Entries()) != 1 || len(l.Queue(6)) != 1 || len(l.Queue(5)) != 2 {
		t.Errorf("%v %v %v", l, i, u)
	}
	if l != h.Links() || i != h.Index(3) || u != h.Cuts(3) {
		t.Errorf("others are handed out")
	}
	if came, e := i.Add(at(9, 3, 2, 2, 2)); came != 1 || e != api.OK { // what is done to them is done to the home
		t.Fatalf("Add: %v %v", came, e)
	}
	b.m.carts[3].add(at(9, 3, 2, 2, 2))
	if is, e := u.Hear(1, promise); is || e != api.OK {
		t.Fatalf("Hear: %v %v", is, e)
	}
	b.m.carts[3].heard = &cuts.Stance{}
	b.m.carts[3].decide(1)
	b.has()
	b.view(3, api.Vector{1: 2}, 1, api.OK)
}

// TestAnswers: the rule 5, what is handed out is no part of the home.
func TestAnswers(t *testing.T) {
	b := begin(t, 3)
	b.hear(2, msg.Of(at(7, 1, 2, 1, 1)), api.OK)
	b.hear(2, msg.Of(at(8, 1, 3, 1, 2)), api.OK)
	b.checkout(1, unseen, 0, api.OK)
	v := b.view(1, unseen, 1, api.OK)
	v.Cuts[0] = cuts.Cut{Home: 9}
	p := b.parts(1, unseen, api.Vector{2})
	p[0].Dots[0].N = 9
	p[1] = Part{}
	b.view(1, unseen, 1, api.OK)
	b.parts(1, unseen, api.Vector{2})
	b.has()
}

// TestLabel: P25.3, P25.4, the document's example: a label of the first event; the view's Vector covers it.
func TestLabel(t *testing.T) {
	b := begin(t, 1)
	b.hear(4, msg.Of(at(7, 3, 2, 2, 1)), api.OK)
	if v := b.view(3, api.Vector{0, 1}, 0, api.OK); v.Vector != (api.Vector{0, 1}) || b.h.Time() != 7 {
		t.Errorf("View: %v", v)
	}
	b.hear(-5, msg.Of(at(5, 3, 4, 2, 2)), api.OK) // whoever tells it; an earlier Time
	if v := b.view(3, unseen, 0, api.OK); v.Vector != (api.Vector{0, 2}) || b.h.Time() != 7 {
		t.Errorf("View: %v", v)
	}
	b.hear(0, msg.Of(at(api.MaxTime, 12, 1, 7, 3)), api.OK) // one that waits, of another cart
	if v := b.view(12, unseen, 0, api.OK); v.Vector != unseen || b.h.Time() != api.MaxTime || len(b.h.Index(12).Waits()) != 1 {
		t.Errorf("View: %v", v)
	}
	b.hear(4, msg.Of(at(1, 12, 1, 7, 2)), api.OK)
	b.hear(4, msg.Of(at(1, 12, 2, 7, 1)), api.OK)
	b.view(12, api.Vector{6: 3}, 0, api.OK)
	b.has()
}

// TestLabelOthers: P25.3, labels that do not come are heard all the same; of its carts they are as late as they say.
func TestLabelOthers(t *testing.T) {
	b := begin(t, 1)
	b.hear(4, msg.Of(at(7, 3, 2, 2, 1)), api.OK)
	b.hear(4, msg.Of(at(9, 1, 2, 2, 1)), api.OK) // it is not the cart's home
	b.hear(4, msg.Of(at(9, 4, 2, 2, 1)), api.OK)
	if b.has(); b.h.Time() != 7 {
		t.Errorf("Time: %d", b.h.Time())
	}
	b.hear(4, msg.Of(at(9, 3, 5, 2, 1)), api.OK) // its dot is there
	if b.has(); b.h.Time() != 9 || len(b.parts(3, unseen, api.Vector{1: 1})) != 1 {
		t.Errorf("Time: %d", b.h.Time())
	}
	b.hear(4, msg.Of(at(11, 3, 0, 2, 2)), api.OK) // of no seller
	if b.has(); b.h.Time() != 11 || b.h.Index(3).Vector() != (api.Vector{1: 1}) {
		t.Errorf("Time: %d", b.h.Time())
	}
	wrong := at(20, 3, 2, 2, 2)
	wrong.Deps[1] = 0
	for _, m := range []msg.Msg{msg.Of(wrong), msg.Of(at(api.MaxTime+1, 3, 2, 2, 2)), {}, {Kind: 1}, {Kind: 10}, msg.Say(3, 22, promise), msg.Say(3, 1, cuts.Stance{Time: 4}), msg.Ask(4, 0)} {
		b.hear(4, m, api.ErrForm)
		b.hear(6, m, api.ErrForm)
	}
	b.has()
}

// TestLabelFull: P25.3, where an index is full none comes that is not there; whatever else is heard.
func TestLabelFull(t *testing.T) {
	b := begin(t, 1)
	for n := uint32(1); n <= 390; n++ {
		b.hear(4, msg.Of(at(7, 3, 2, 2, n)), api.OK)
	}
	for n := uint32(2); n <= 10; n++ { // they wait
		b.hear(4, msg.Of(at(7, 3, 2, 7, n)), api.OK)
	}
	b.hear(4, msg.Of(at(7, 3, 2, 12, 1)), api.OK)
	b.hear(4, msg.Of(at(8, 3, 2, 2, 391)), api.ErrFull)
	b.hear(4, msg.Of(at(8, 3, 2, 7, 1)), api.ErrFull) // for which others wait
	b.hear(4, msg.Of(at(8, 3, 2, 7, 11)), api.ErrFull)
	b.has()
	b.hear(4, msg.Of(at(8, 3, 2, 2, 390)), api.OK)
	b.hear(4, msg.Of(at(9, 3, 3, 2, 1)), api.OK)
	b.hear(4, msg.Of(at(10, 3, 2, 7, 10)), api.OK)
	b.hear(4, msg.Of(at(11, 3, 0, 2, 391)), api.OK) // of no seller
	b.hear(4, msg.Of(at(12, 4, 2, 2, 391)), api.OK) // it is not the cart's home
	b.hear(4, msg.Of(at(13, 6, 2, 2, 1)), api.OK)   // another index is not
	b.has()
	if b.h.Time() != 13 {
		t.Errorf("Time: %d", b.h.Time())
	}
	b.hear(6, msg.Say(3, 1, pro(20)), api.OK) // stances are no labels
	b.checkout(6, unseen, 0, api.OK)
	b.checkout(3, unseen, 0, api.OK)
	b.again()
	b.hear(4, msg.Of(at(8, 3, 2, 2, 391)), api.ErrFull)
}

// TestAlone: P25.2, a home alone: what it proposes counts at once, and nobody is told.
func TestAlone(t *testing.T) {
	b := begin(t, 3)
	b.checkout(1, unseen, 9, api.ErrNone) // there is nothing
	b.hear(2, msg.Of(at(7, 1, 2, 1, 1)), api.OK)
	if n := b.checkout(1, unseen, 0, api.OK); n != 1 || b.h.Time() != 8 {
		t.Errorf("Checkout: %d %d", n, b.h.Time())
	}
	b.checkout(1, unseen, 20, api.ErrNone) // nothing new
	b.hear(2, msg.Of(at(3, 1, 2, 1, 2)), api.OK)
	if n := b.checkout(1, api.Vector{2}, 20, api.OK); n != 2 || b.h.Time() != 21 {
		t.Errorf("Checkout: %d %d", n, b.h.Time())
	}
	v := b.view(1, api.Vector{2}, 2, api.OK)
	if !slices.Equal(v.Cuts, []cuts.Cut{{Home: 3, Time: 8, Vector: api.Vector{1}}, {Home: 3, Time: 21, Vector: api.Vector{2}}}) || v.From != (api.Vector{2}) {
		t.Errorf("View: %v", v)
	}
	for n := range 13 {
		b.queued(n)
	}
	for _, from := range []int{0, 1, 2, 3, 12} { // a cart without another home: no stance is heard
		b.hear(from, msg.Say(1, 3, pro(99, 3)), api.OK)
		b.hear(from, msg.Say(1, 3, promise), api.OK)
	}
	if b.has(); b.h.Time() != 21 {
		t.Errorf("Time: %d", b.h.Time())
	}
}

// TestCheckout: P25.2, the other home is told the stance; till it answers there is no other one.
func TestCheckout(t *testing.T) {
	b := begin(t, 2)
	b.hear(1, msg.Of(at(7, 1, 2, 3, 1)), api.OK)
	if n := b.checkout(1, api.Vector{2: 1}, 0, api.OK); n != 1 || b.h.Time() != 8 {
		t.Errorf("Checkout: %d %d", n, b.h.Time())
	}
	first := msg.Say(1, 1, pro(8, 0, 0, 1))
	b.queued(12, first)
	b.hear(1, msg.Of(at(7, 1, 2, 3, 2)), api.OK)
	b.checkout(1, unseen, 0, api.ErrBusy) // it has a stance
	b.view(1, unseen, 1, api.ErrAway)
	b.hear(12, msg.Say(1, 1, promise), api.OK)
	b.view(1, unseen, 1, api.OK)
	if n := b.checkout(1, unseen, 99, api.OK); n != 2 || b.h.Time() != 100 {
		t.Errorf("Checkout: %d %d", n, b.h.Time())
	}
	second := msg.Say(1, 2, pro(100, 0, 0, 2))
	b.queued(12, first, second)
	b.hear(1, msg.Of(at(7, 12, 2, 3, 1)), api.OK)
	b.checkout(12, unseen, 0, api.OK) // another cart's rounds are its own
	b.queued(12, first, second, msg.Say(12, 1, pro(101, 0, 0, 1)))
	b.queued(1)
}

// TestCheckoutErrors: P25.2, of several errors the first one that the document names.
func TestCheckoutErrors(t *testing.T) {
	b := begin(t, 2)
	for _, cart := range []int{0, 13, 14, -1, math.MinInt, math.MaxInt} {
		b.checkout(cart, api.Vector{9}, math.MaxUint64, api.ErrCart)
	}
	b.checkout(1, api.Vector{11: 1}, math.MaxUint64, api.ErrAway)
	b.checkout(1, api.Vector{math.MaxUint32}, 0, api.ErrAway)
	b.checkout(1, unseen, api.MaxTime+1, api.ErrArg)
	b.checkout(1, unseen, math.MaxUint64, api.ErrArg)
	b.checkout(1, unseen, api.MaxTime, api.ErrArg) // there is no Time behind it
	b.checkout(1, unseen, api.MaxTime-1, api.ErrNone)
	b.hear(1, msg.Of(at(7, 1, 2, 3, 1)), api.OK)
	b.send(12, 250)
	b.checkout(1, api.Vector{2: 2}, 0, api.ErrAway)
	b.checkout(1, unseen, math.MaxUint64, api.ErrBusy)
	b.checkout(2, unseen, 0, api.ErrBusy) // also where there is nothing to propose
	b.checkout(13, unseen, 0, api.ErrCart)
	b.acked(12, 1)
	b.checkout(1, unseen, math.MaxUint64, api.ErrArg)
	b.checkout(1, unseen, api.MaxTime-1, api.OK) // the last place, the last Time
	b.checkout(1, unseen, 0, api.ErrBusy)
	b.acked(12, 250)
	b.checkout(1, unseen, math.MaxUint64, api.ErrArg)
	b.checkout(1, unseen, 0, api.ErrArg) // its own Time is the last one
	b.has()
	alone := begin(t, 3)
	alone.send(1, 250) // nobody has to be told
	alone.send(2, 250)
	alone.hear(2, msg.Of(at(7, 1, 2, 1, 1)), api.OK)
	alone.checkout(1, unseen, 0, api.OK)
}

// TestCheckoutAway: P25.2, a cut that it does not cover yet: no proposal, and no view.
func TestCheckoutAway(t *testing.T) {
	b := begin(t, 2)
	b.hear(1, msg.Of(at(7, 1, 2, 3, 1)), api.OK)
	b.hear(12, msg.Say(1, 1, pro(50, 0, 0, 1, 1)), api.OK)
	if b.h.Time() != 50 {
		t.Errorf("Time: %d", b.h.Time())
	}
	b.checkout(1, unseen, 0, api.ErrAway)
	b.view(1, unseen, 0, api.ErrAway)
	b.view(1, unseen, 1, api.ErrAway)
	b.hear(1, msg.Of(at(8, 1, 2, 4, 1)), api.OK)
	b.checkout(1, unseen, 0, api.ErrNone)
	b.view(1, unseen, 1, api.OK)
	b.hear(1, msg.Of(at(8, 1, 2, 4, 2)), api.OK)
	if n := b.checkout(1, unseen, 0, api.OK); n != 2 {
		t.Errorf("Checkout: %d", n)
	}
	b.queued(12, msg.Say(1, 1, promise), msg.Say(1, 2, pro(51, 0, 0, 1, 2)))
}

// TestCheckoutFull: P25.2, at MaxCuts there is no round more, for whomever.
func TestCheckoutFull(t *testing.T) {
	b := begin(t, 3)
	for n := range uint32(21) {
		want := api.OK
		if n == 20 {
			want = api.ErrFull
		}
		b.hear(2, msg.Of(at(1, 1, 2, 1, n+1)), api.OK)
		if round := b.checkout(1, unseen, 0, want); n < 20 && round != int(n+1) {
			t.Errorf("Checkout: %d", round)
		}
	}
	if v := b.view(1, unseen, 20, api.OK); len(v.Cuts) != 20 {
		t.Errorf("View: %v", v)
	}
	b.view(1, unseen, 21, api.ErrAway)
	b.again()
	b = begin(t, 2)
	for n := range uint32(20) {
		b.hear(12, msg.Say(1, int(n+1), pro(uint64(n+1), n+1)), api.OK)
		b.hear(1, msg.Of(at(1, 1, 2, 1, n+1)), api.OK)
	}
	b.acked(12, 20)
	b.send(12, 250)
	b.hear(12, msg.Say(1, 21, pro(300, 21)), api.OK) // it does not promise: there is no such round
	b.hear(1, msg.Of(at(1, 1, 2, 1, 21)), api.OK)
	b.acked(12, 270)
	b.checkout(1, unseen, 0, api.ErrFull)
	if b.has(); b.h.Time() != 300 {
		t.Errorf("Time: %d", b.h.Time())
	}
}

// TestEnd: P25.2 and P25.3, where the numbers of a link have ended, nothing may be sent.
func TestEnd(t *testing.T) {
	b := begin(t, 2)
	b.hear(1, msg.Of(at(7, 1, 2, 3, 1)), api.OK)
	b.hear(1, msg.Of(at(7, 2, 2, 3, 1)), api.OK)
	b.ended(12, api.MaxTime)
	b.checkout(1, unseen, 0, api.OK) // the last number
	b.checkout(2, unseen, 0, api.ErrBusy)
	b.hear(12, msg.Say(2, 1, pro(9, 1)), api.ErrBusy)
	b.hear(12, msg.Say(1, 1, pro(9, 1)), api.OK) // no promise is told: it has a stance
	b.hear(1, msg.Of(at(7, 2, 2, 3, 2)), api.OK)
	b.has()
	b.ended(12, api.MaxTime+1)
	b.checkout(2, unseen, 0, api.ErrBusy)
	b.ended(12, api.MaxTime)
	b.hear(12, msg.Say(2, 1, pro(9, 1)), api.OK)
	b.hear(12, msg.Say(3, 1, pro(9, 1)), api.ErrBusy)
	b.has()
}

// TestPromise: P25.3, a proposal makes it promise, of that round; other stances do not.
func TestPromise(t *testing.T) {
	b := begin(t, 2)
	b.hear(12, msg.Say(5, 1, pro(9, 1)), api.OK)
	if b.queued(12, msg.Say(5, 1, promise)); b.h.Time() != 9 {
		t.Errorf("Time: %d", b.h.Time())
	}
	if got := b.h.Cuts(5).Cuts(); !slices.Equal(got, []cuts.Cut{{Home: 12, Time: 9, Vector: api.Vector{1}}}) {
		t.Errorf("Cuts: %v", got)
	}
	b.hear(12, msg.Say(5, 2, pro(5, 2)), api.OK)
	b.queued(12, msg.Say(5, 1, promise), msg.Say(5, 2, promise))
	b.hear(12, msg.Say(5, 2, pro(12, 3)), api.OK) // it was there; it is late all the same
	b.hear(12, msg.Say(5, 4, pro(15, 3)), api.OK) // ahead of its round
	if b.queued(12, msg.Say(5, 1, promise), msg.Say(5, 2, promise)); b.h.Time() != 15 || len(b.h.Cuts(5).Cuts()) != 2 {
		t.Errorf("Time: %d", b.h.Time())
	}
	for _, from := range []int{0, 1, 2, 3, 11, 13, -1, math.MinInt, math.MaxInt} { // who is not the other home
		b.hear(from, msg.Say(5, 3, pro(99, 3)), api.OK)
		b.hear(from, msg.Say(6, 1, promise), api.OK)
	}
	if b.has(); b.h.Time() != 15 {
		t.Errorf("Time: %d", b.h.Time())
	}
	b.hear(12, msg.Say(6, 1, promise), api.OK) // a promise asks for none, and decides nothing alone
	b.hear(12, msg.Say(6, 1, pro(20, 1)), api.OK)
	b.queued(12, msg.Say(5, 1, promise), msg.Say(5, 2, promise))
	b.hear(1, msg.Of(at(7, 6, 2, 3, 1)), api.OK)
	if n := b.checkout(6, unseen, 0, api.OK); n != 1 || len(b.h.Cuts(6).Cuts()) != 1 {
		t.Errorf("Checkout: %d", n)
	}
	b.queued(12, msg.Say(5, 1, promise), msg.Say(5, 2, promise), msg.Say(6, 1, pro(21, 0, 0, 1)))
}

// TestElsewhere: P25.3, of three homes each cart has its own other one.
func TestElsewhere(t *testing.T) {
	b := begin(t, 1)
	for cart := 1; cart <= 12; cart++ {
		b.hear(6, msg.Say(cart, 1, pro(uint64(10*cart), 1)), api.OK)
	}
	b.queued(6, msg.Say(3, 1, promise), msg.Say(6, 1, promise), msg.Say(9, 1, promise), msg.Say(12, 1, promise))
	b.queued(10)
	for cart := 1; cart <= 12; cart++ {
		b.hear(10, msg.Say(cart, 1, pro(uint64(10*cart), 1)), api.OK)
	}
	b.queued(10, msg.Say(2, 1, promise), msg.Say(5, 1, promise), msg.Say(8, 1, promise), msg.Say(11, 1, promise))
	b.hear(4, msg.Of(at(1, 8, 2, 1, 1)), api.OK)
	b.hear(4, msg.Of(at(1, 8, 2, 1, 2)), api.OK)
	b.checkout(8, unseen, 0, api.OK)
	if q := b.h.Links().Queue(10); len(q) != 5 {
		t.Errorf("%v", q)
	}
	b.has()
}

// TestBusy: P25.3, a promise that may not be sent is not made; what asks for none is heard.
func TestBusy(t *testing.T) {
	b := begin(t, 2)
	b.hear(1, msg.Of(at(7, 2, 2, 3, 1)), api.OK)
	b.checkout(2, unseen, 0, api.OK)
	b.send(12, 249)
	b.hear(12, msg.Say(1, 1, pro(30, 1)), api.ErrBusy)
	b.has()
	b.hear(12, msg.Say(1, 2, pro(31, 1)), api.OK) // ahead of its round
	b.hear(12, msg.Say(2, 1, pro(32, 1)), api.OK) // it has a stance
	b.hear(12, msg.Say(2, 1, pro(33, 1)), api.OK) // it was there
	b.hear(12, msg.Say(3, 1, promise), api.OK)
	b.hear(12, msg.Say(3, 1, pro(34, 1)), api.OK) // it promised
	b.hear(3, msg.Say(1, 1, pro(35, 1)), api.OK)  // who is not the other home
	b.hear(1, msg.Of(at(36, 1, 2, 3, 1)), api.OK)
	if b.has(); b.h.Time() != 36 {
		t.Errorf("Time: %d", b.h.Time())
	}
	b.acked(12, 1)
	b.hear(12, msg.Say(1, 1, pro(30, 1)), api.OK)
	b.hear(12, msg.Say(4, 1, pro(30, 1)), api.ErrBusy)
	b.has()
	other := begin(t, 1) // of three homes
	other.send(10, 250)
	other.hear(6, msg.Say(3, 1, pro(30, 1)), api.OK)
	other.hear(10, msg.Say(2, 1, pro(30, 1)), api.ErrBusy)
	other.hear(10, msg.Say(3, 1, pro(30, 1)), api.OK)
	other.has()
}

// TestMay: P25.3, May changes nothing, also where one label more would fill the index.
func TestMay(t *testing.T) {
	b := begin(t, 1)
	for n := uint32(1); n <= 399; n++ {
		b.hear(4, msg.Of(at(7, 3, 2, 2, n)), api.OK)
	}
	for _, m := range []msg.Msg{
		msg.Of(at(9, 3, 2, 2, 400)), msg.Of(at(9, 3, 2, 7, 2)), msg.Of(at(9, 3, 2, 2, 1)), msg.Of(at(9, 6, 2, 2, 1)), msg.Of(at(9, 6, 0, 2, 1)),
		msg.Say(3, 1, pro(9, 1)), msg.Say(3, 1, promise), msg.Say(3, 2, pro(9, 1)),
	} {
		for _, from := range []int{4, 6, 10} {
			if e := b.h.May(from, m); e != api.OK {
				t.Errorf("May: %v", e)
			}
			b.has()
		}
	}
}

// TestOwn: P25.6, a home has nothing of events but what their labels tell: other messages change nothing.
func TestOwn(t *testing.T) {
	b := begin(t, 1)
	b.hear(4, msg.Of(at(7, 3, 2, 2, 1)), api.OK)
	b.checkout(3, unseen, 0, api.OK)
	was := string(put(b.h))
	for _, m := range others() {
		for _, from := range []int{1, 2, 4, 6, 10, 0, 13} {
			b.hear(from, m, api.OK)
		}
		if string(put(b.h)) != was {
			t.Errorf("%v is heard", m)
		}
	}
	b.has()
}

// TestView: P25.4, what a view tells, and when there is none.
func TestView(t *testing.T) {
	b := begin(t, 3)
	for _, rounds := range []int{0, -1, math.MinInt} {
		if v := b.view(4, unseen, rounds, api.OK); v.Vector != unseen || v.From != unseen || len(v.Cuts) != 0 {
			t.Errorf("View: %v", v)
		}
	}
	b.view(4, unseen, 1, api.ErrAway)
	b.view(4, unseen, math.MaxInt, api.ErrAway)
	b.view(4, api.Vector{1}, 0, api.ErrAway)
	b.hear(2, msg.Of(at(7, 4, 2, 1, 1)), api.OK)
	b.hear(2, msg.Of(at(7, 4, 2, 12, 1)), api.OK)
	b.checkout(4, unseen, 0, api.OK)
	b.hear(2, msg.Of(at(8, 4, 2, 1, 2)), api.OK)
	b.hear(2, msg.Of(at(8, 4, 2, 5, 2)), api.OK) // it waits
	v := b.view(4, api.Vector{2, 11: 1}, 1, api.OK)
	if v.Vector != (api.Vector{2, 11: 1}) || v.From != (api.Vector{1, 11: 1}) || len(v.Cuts) != 1 {
		t.Errorf("View: %v", v)
	}
	b.view(4, api.Vector{2, 4: 1}, 0, api.ErrAway)
	b.view(4, api.Vector{3}, 0, api.ErrAway)
	b.view(4, api.Vector{11: 2}, 0, api.ErrAway)
	b.view(4, unseen, 2, api.ErrAway)
	for _, cart := range []int{0, 13, -1, math.MaxInt} {
		b.view(cart, api.Vector{9}, 9, api.ErrCart)
	}
	if b.h.Time() != 8 { // 8 by the checkout
		t.Errorf("Time: %d", b.h.Time())
	}
}

// TestParts: P25.4, the sellers of a stretch, with their dots.
func TestParts(t *testing.T) {
	b := begin(t, 3)
	for _, l := range []label.Label{at(1, 4, 9, 12, 1), at(2, 4, 2, 1, 1), at(3, 4, 9, 1, 2), at(4, 4, 12, 5, 1), at(5, 4, 2, 12, 2), at(6, 4, 2, 5, 3), at(9, 5, 7, 1, 1)} {
		b.hear(2, msg.Of(l), api.OK)
	}
	all := api.Vector{2, 0, 0, 0, 1, 11: 2}
	want := []Part{
		{2, []clock.Dot{{Node: 1, N: 1}, {Node: 12, N: 2}}},
		{9, []clock.Dot{{Node: 1, N: 2}, {Node: 12, N: 1}}},
		{12, []clock.Dot{{Node: 5, N: 1}}},
	}
	got := b.parts(4, unseen, all)
	if len(got) != 3 || got[0].Seller != 2 || got[1].Seller != 9 || got[2].Seller != 12 {
		t.Fatalf("Parts: %v, not %v", got, want)
	}
	for i := range got {
		if !slices.Equal(got[i].Dots, want[i].Dots) {
			t.Errorf("Parts: %v, not %v", got, want)
		}
	}
	for _, from := range []api.Vector{unseen, {1}, {2}, {2, 0, 0, 0, 1, 11: 1}, all, {9, 9, 9, 9, 9, 9, 9, 9, 9, 9, 9, 9}} {
		for _, to := range []api.Vector{unseen, {1}, {1, 11: 1}, all, {math.MaxUint32, 4: 3, 11: 9}} {
			for _, cart := range []int{4, 5, 6, 0, 13, -1, math.MaxInt} {
				b.parts(cart, from, to)
			}
		}
	}
	if got := b.parts(4, api.Vector{1, 11: 2}, api.Vector{2, 11: 2}); len(got) != 1 || got[0].Seller != 9 || len(got[0].Dots) != 1 {
		t.Errorf("Parts: %v", got)
	}
	b.has()
}

package step

import (
	"math/rand"
	"slices"
	"testing"

	"trug/api"
	"trug/clock"
	"trug/input"
	"trug/label"
	"trug/op"
	"trug/packet"
	"trug/state"
)

// happened is an input, and what came of it.
type happened struct {
	input input.Input
	reply Reply
}

// node is a state, and what it is made of again behind a crash: its bytes at some time, and what happened to it since.
type node struct {
	*state.State
	bytes []byte
	log   []happened
}

// world is all nodes of the great tree, the packets between them, and what was told to customers.
type world struct {
	t      *testing.T
	r      *rand.Rand
	nodes  map[int]*node
	way    []packet.Packet
	events []op.Event
	lost   int
}

// newWorld is nodes, of which the shards 2 and 3 founded sellers.
func newWorld(t *testing.T, r *rand.Rand, lost int) *world {
	t.Helper()
	w := &world{t: t, r: r, nodes: map[int]*node{}, lost: lost}
	for _, n := range nodes() {
		s := made(t, n)
		w.nodes[n] = &node{State: s, bytes: s.Save()}
	}
	w.do(2, foundOf(1))
	w.do(3, foundOf(2))
	return w
}

// do lets an input happen at a node; what is idle is not kept.
func (w *world) do(n int, x input.Input) Reply {
	w.t.Helper()
	to := w.nodes[n]
	if Idle(to.State, x) {
		before := string(to.Save())
		r := Do(to.State, x)
		if string(to.Save()) != before {
			w.t.Fatalf("%v is idle, but it changed", x)
		}
		return r
	}
	r := Do(to.State, x)
	to.log = append(to.log, happened{x, r})
	return r
}

// ask lets something new happen.
func (w *world) ask() {
	cart, seller, shard := 1+w.r.Intn(4), 1+w.r.Intn(2), anyOf(w.r, 2, 3, 12)
	switch w.r.Intn(8) {
	case 0:
		w.do(shard, joinOf(seller, anyOf(w.r, 2, 3, 12)))
	case 1:
		w.do(shard, leaveOf(seller))
	case 2:
		w.do(anyOf(w.r, 1, 6), checkoutOf(cart, api.Vector{}, uint64(w.r.Intn(9))))
	default:
		if r := w.do(shard, orderOf(cart, seller, api.Vector{}, 0, add)); r.Err == api.OK {
			w.events = append(w.events, r.Event)
		}
	}
}

// pump lets all that a node has to tell be on its way.
func (w *world) pump(n int) {
	l := w.nodes[n].Links()
	w.way = append(w.way, l.Packets()...)
	for _, to := range l.Peers() {
		if p, is := l.Ack(to); is {
			w.way = append(w.way, p)
		}
	}
}

// deliver lets one of the packets come, or be lost, or double itself.
func (w *world) deliver() {
	if len(w.way) == 0 {
		return
	}
	i := w.r.Intn(len(w.way))
	p := w.way[i]
	if w.r.Intn(6) > 0 {
		w.way = slices.Delete(w.way, i, i+1)
	}
	if w.r.Intn(100) >= w.lost {
		w.do(p.To, packetOf(p))
	}
}

// again lets a node be made anew, from its bytes and what happened since: P28.4, it is the same, and tells the same.
func (w *world) again(n int) {
	w.t.Helper()
	x := w.nodes[n]
	s, e := state.Load(great(), n, x.bytes)
	if e != api.OK {
		w.t.Fatalf("the node %d, %x: %v", n, x.bytes, e)
	}
	for _, h := range x.log {
		if r := Do(s, h.input); !Same(r, h.reply) {
			w.t.Fatalf("the node %d, %v: %v, not %v", n, h.input, r, h.reply)
		}
	}
	if string(s.Save()) != string(x.Save()) {
		w.t.Fatalf("the node %d: %x, not %x", n, s.Save(), x.Save())
	}
	x.State = s
	if w.r.Intn(2) == 0 {
		x.bytes, x.log = s.Save(), nil
	}
}

// rest lets all come that is on its way, and nothing new happen.
func (w *world) rest() {
	w.t.Helper()
	w.lost = 0
	for range 300 {
		quiet := true
		for _, n := range nodes() {
			quiet = quiet && len(w.nodes[n].Links().Packets()) == 0
			w.pump(n)
		}
		for len(w.way) > 0 {
			p := w.way[0]
			w.way = w.way[1:]
			w.do(p.To, packetOf(p))
		}
		if quiet {
			return
		}
	}
	w.t.Fatalf("it does not come to rest")
}

// agrees asks P7 and P5: at rest all that are ready for a seller have all its events, both homes have all labels, and the same cuts.
func (w *world) agrees() (ready, cut int) {
	w.t.Helper()
	for seller := 1; seller <= 2; seller++ {
		for _, n := range []int{2, 3, 12} {
			s := w.nodes[n].Shard()
			switch s.Peers().State(seller) {
			case 1, 3:
				w.t.Fatalf("the shard %d waits still", n)
			case 2:
				ready++
				w.has(s.Store().Events(seller), seller)
			}
		}
	}
	for cart := 1; cart <= 4; cart++ {
		a, e := w.nodes[1].Home().View(cart, w.all(cart), 0)
		b, f := w.nodes[6].Home().View(cart, w.all(cart), 0)
		if e != api.OK || f != api.OK || a.Vector != w.all(cart) || b.Vector != a.Vector || !slices.Equal(a.Cuts, b.Cuts) {
			w.t.Fatalf("the cart %d: %v %v, %v %v, not %v", cart, a, e, b, f, w.all(cart))
		}
		cut += len(a.Cuts)
	}
	return ready, cut
}

// all is the vector of a cart's events.
func (w *world) all(cart int) (v api.Vector) {
	for _, x := range w.events {
		if x.Label.Cart == cart {
			v = clock.With(v, label.Dot(x.Label))
		}
	}
	return v
}

// has asks that these are all events of a seller.
func (w *world) has(got []op.Event, seller int) {
	w.t.Helper()
	count := 0
	for _, x := range w.events {
		if x.Label.Seller != seller {
			continue
		}
		count++
		if !slices.ContainsFunc(got, func(y op.Event) bool { return op.Same(x, y) }) {
			w.t.Fatalf("%v is missing", x)
		}
	}
	if count != len(got) {
		w.t.Fatalf("%d events, not %d", len(got), count)
	}
}

// TestNet: P28.4, P4, P5 and P7, nodes of all kinds, that crash, over a net that loses, doubles and mixes.
func TestNet(t *testing.T) {
	r := rand.New(rand.NewSource(1))
	ready, cut, events := 0, 0, 0
	for range 40 {
		w := newWorld(t, r, []int{0, 10, 40}[r.Intn(3)])
		for range 3000 {
			switch k := r.Intn(40); {
			case k < 2 && len(w.events) < 90:
				w.ask()
			case k < 10 && len(w.way) < 300:
				w.pump(anyOf(r, nodes()...))
			case k == 10 && r.Intn(4) == 0:
				w.again(anyOf(r, nodes()...))
			default:
				w.deliver()
			}
		}
		w.rest()
		a, b := w.agrees()
		ready, cut, events = ready+a, cut+b, events+len(w.events)
		for _, n := range nodes() {
			w.again(n)
		}
	}
	if ready < 120 || cut < 100 || events < 800 {
		t.Errorf("%d %d %d: of little worth", ready, cut, events)
	}
}

package node

import (
	"bytes"
	"math/rand"
	"slices"
	"testing"

	"trug/api"
	"trug/clock"
	"trug/disk"
	"trug/input"
	"trug/label"
	"trug/net"
	"trug/op"
	"trug/packet"
)

// world is all nodes of the great tree, the packets between them, and what was acknowledged.
type world struct {
	t       *testing.T
	r       *rand.Rand
	disks   map[int]*disk.Disk
	nodes   map[int]*Node // those that are up
	net     *net.Net
	asked   map[int]map[int]input.Input // by nodes and records, of which the reply was not told
	events  []op.Event                  // that were acknowledged
	rounds  map[int]int                 // by carts, the last one that was acknowledged
	crashes int
}

// newWorld is nodes, of which the shards 2 and 3 founded sellers.
func newWorld(t *testing.T, r *rand.Rand) *world {
	t.Helper()
	w := &world{t: t, r: r, disks: map[int]*disk.Disk{}, nodes: map[int]*Node{}, net: net.New(), asked: map[int]map[int]input.Input{}, rounds: map[int]int{}}
	for _, n := range nodes() {
		w.disks[n], w.nodes[n] = formatted(t, n, 100000)
		w.asked[n] = map[int]input.Input{}
	}
	w.do(2, foundOf(1))
	w.do(3, foundOf(2))
	for _, n := range nodes() {
		w.sync(n)
	}
	return w
}

// do lets an input happen at a node, if it is up.
func (w *world) do(n int, y input.Input) {
	x := w.nodes[n]
	if k, _, e := x.Do(y); x != nil && e == api.OK && k > 0 && y.Kind != 6 {
		w.asked[n][k] = y
	}
}

// ask lets something new happen.
func (w *world) ask() {
	cart, seller, shard := 1+w.r.Intn(4), 1+w.r.Intn(2), anyOf(w.r, 2, 3, 12)
	switch w.r.Intn(8) {
	case 0:
		w.do(shard, joinOf(seller, anyOf(w.r, 2, 3, 12)))
	case 1:
		w.do(shard, leaveOf(seller))
	case 2:
		w.do(anyOf(w.r, 1, 6), checkoutOf(cart))
	default:
		w.do(shard, orderOf(cart, seller, op.Op{Kind: 6, Sku: 1 + w.r.Intn(40), Price: w.r.Float64()}))
	}
}

// sync makes a node sure, if it is up, and takes what it acknowledges.
func (w *world) sync(n int) {
	w.t.Helper()
	x := w.nodes[n]
	x.Sync()
	for _, a := range x.Answers() {
		y, is := w.asked[n][a.Number]
		if !is {
			w.t.Fatalf("the node %d: %v was not asked, or told twice", n, a)
		}
		delete(w.asked[n], a.Number)
		switch {
		case a.Reply.Err != api.OK:
		case y.Kind == 1:
			if l := a.Reply.Event.Label; l.Cart != y.Cart || l.Seller != y.Seller || a.Reply.Event.Op != y.Op {
				w.t.Fatalf("%v is not told of %v", a, y)
			}
			w.events = append(w.events, a.Reply.Event)
		case y.Kind == 5:
			w.rounds[y.Cart] = max(w.rounds[y.Cart], a.Reply.Round)
		}
	}
}

// pump lets all that a node has to tell be on its way.
func (w *world) pump(n int) {
	for _, p := range w.nodes[n].Packets() {
		w.net.Put(p)
	}
}

// deliver lets one of the packets come, or be lost, or spoilt, or double itself.
func (w *world) deliver() {
	if w.net.Len() == 0 {
		return
	}
	i := w.r.Intn(w.net.Len())
	switch w.r.Intn(12) {
	case 0:
		w.net.Twice(i)
	case 1:
		w.net.Drop(i)
	case 2:
		w.net.Spoil(i, w.r.Intn(100))
	default:
		if p, e := w.net.Take(i); e == api.OK {
			w.nodes[p.To].Do(packetOf(p))
		}
	}
}

// crash lets a node be down.
func (w *world) crash(n int) {
	if w.nodes[n] == nil {
		return
	}
	d := w.disks[n]
	d.Crash(w.r.Intn(d.Waits()+2) - 1)
	delete(w.nodes, n)
	w.asked[n] = map[int]input.Input{} // they are not acknowledged any more
	w.crashes++
}

// restart lets a node be up.
func (w *world) restart(n int) {
	w.t.Helper()
	if w.nodes[n] == nil {
		w.nodes[n] = opened(w.t, n, w.disks[n])
	}
}

// something happens.
func (w *world) something() {
	w.t.Helper()
	n := anyOf(w.r, nodes()...)
	switch k := w.r.Intn(80); {
	case k < 4 && len(w.events) < 90:
		w.ask()
	case k < 14:
		w.sync(n)
	case k < 22 && w.net.Len() < 300:
		w.pump(n)
	case k == 22 && w.r.Intn(2) == 0:
		w.crash(n)
	case k < 26:
		w.restart(n)
	case k == 26 && w.r.Intn(4) == 0:
		w.nodes[n].Compact()
	case k < 34:
		w.nodes[n].Step()
	default:
		w.deliver()
	}
}

// compact lets a change come to its end, and another one too.
func (w *world) compact(n int) {
	w.t.Helper()
	x := w.nodes[n]
	for x.Log().Stage() > 0 {
		x.Step()
	}
	syncs(w.t, x)
	compacts(w.t, x)
}

// rest lets all come that is on its way, and nothing new happen.
func (w *world) rest() {
	w.t.Helper()
	for _, n := range nodes() {
		w.restart(n)
		w.compact(n)
	}
	for range 300 {
		quiet := true
		for _, n := range nodes() {
			w.sync(n)
			quiet = quiet && len(w.nodes[n].State().Links().Packets()) == 0
			w.pump(n)
		}
		for w.net.Len() > 0 {
			p, e := w.net.Take(0)
			if e == api.OK {
				w.nodes[p.To].Do(packetOf(p))
			}
		}
		if quiet {
			return
		}
	}
	w.t.Fatalf("it does not come to rest")
}

// all is all events that shards have, each once; no two of a cart have one dot.
func (w *world) all() []op.Event {
	w.t.Helper()
	var out []op.Event
	for _, n := range []int{2, 3, 12} {
		s := w.nodes[n].State().Shard()
		for _, seller := range s.Store().Sellers() {
			for _, x := range s.Store().Events(seller) {
				i := slices.IndexFunc(out, func(y op.Event) bool { return x.Label.Cart == y.Label.Cart && label.Dot(x.Label) == label.Dot(y.Label) })
				switch {
				case i < 0:
					out = append(out, x)
				case !op.Same(out[i], x):
					w.t.Fatalf("%v and %v have one dot", out[i], x)
				}
			}
		}
	}
	return out
}

// agrees asks P4, P5 and P7: what was acknowledged is there, once; all that are ready for a seller have all its events, both homes have all labels, and the same cuts.
func (w *world) agrees() (ready, cut int) {
	w.t.Helper()
	all := w.all()
	for i, x := range w.events {
		is := func(y op.Event) bool { return op.Same(x, y) }
		if !slices.ContainsFunc(all, is) || slices.ContainsFunc(w.events[:i], is) {
			w.t.Fatalf("%v was acknowledged, and is lost, or done twice", x)
		}
	}
	for seller := 1; seller <= 2; seller++ {
		of := slices.DeleteFunc(slices.Clone(all), func(x op.Event) bool { return x.Label.Seller != seller })
		for _, n := range []int{2, 3, 12} {
			s := w.nodes[n].State().Shard()
			switch state := s.Peers().State(seller); {
			case state == 1 || state == 3:
				w.t.Fatalf("the shard %d waits still", n)
			case state == 2 && len(s.Store().Events(seller)) != len(of):
				w.t.Fatalf("the shard %d has %d events of the seller %d, not %d", n, len(s.Store().Events(seller)), seller, len(of))
			case state == 2:
				ready++
			}
		}
	}
	for cart := 1; cart <= 4; cart++ {
		a, e := w.nodes[1].State().Home().View(cart, vector(all, cart), w.rounds[cart])
		b, f := w.nodes[6].State().Home().View(cart, vector(all, cart), w.rounds[cart])
		if e != api.OK || f != api.OK || a.Vector != vector(all, cart) || b.Vector != a.Vector || !slices.Equal(a.Cuts, b.Cuts) {
			w.t.Fatalf("the cart %d: %v %v, %v %v, not %v", cart, a, e, b, f, vector(all, cart))
		}
		cut += len(a.Cuts)
	}
	return ready, cut
}

// vector is the vector of a cart's events.
func vector(all []op.Event, cart int) (v api.Vector) {
	for _, x := range all {
		if x.Label.Cart == cart {
			v = clock.With(v, label.Dot(x.Label))
		}
	}
	return v
}

// wiped asks P6 and P29.6: behind a change of five steps prices stand just on the disks of those who subscribe to the seller.
func (w *world) wiped() (gone int) {
	w.t.Helper()
	all := w.all()
	for _, n := range nodes() {
		w.compact(n)
		d := w.disks[n]
		b, _ := d.Read(0, d.Size())
		s := w.nodes[n].State().Shard()
		for _, x := range all {
			e, _ := op.Write(x)
			is := bytes.Contains(b, e[len(e)-8:])
			if want := s.Peers().State(x.Label.Seller) == 2; is != want {
				w.t.Fatalf("the node %d: %v stands on its disk: %v", n, x, is)
			}
			if s != nil && !is {
				gone++
			}
		}
	}
	return gone
}

// TestWorld: P4, P5, P6 and P7, nodes of all kinds, that crash, over a net that loses, doubles, mixes and spoils.
func TestWorld(t *testing.T) {
	r := rand.New(rand.NewSource(1))
	ready, cut, events, crashes, gone := 0, 0, 0, 0, 0
	for range 25 {
		w := newWorld(t, r)
		for range 6000 {
			w.something()
		}
		w.rest()
		a, b := w.agrees()
		ready, cut, events, crashes, gone = ready+a, cut+b, events+len(w.events), crashes+w.crashes, gone+w.wiped()
		for _, n := range nodes() {
			was := saved(w.nodes[n])
			w.crash(n)
			if w.restart(n); saved(w.nodes[n]) != was {
				t.Fatalf("the node %d: opened otherwise", n)
			}
		}
	}
	if ready < 70 || cut < 60 || events < 500 || crashes < 300 || gone < 100 {
		t.Errorf("%d %d %d %d %d: of little worth", ready, cut, events, crashes, gone)
	}
}

// TestUnsure: P4 and P29.3, what a crash undid nobody was told: of a node that is not sure no packet tells.
func TestUnsure(t *testing.T) {
	d, x := joined(t, 20000)
	for range 12 {
		was := x.Packets()
		x.Answers()
		does(t, x, orderOf(1, 3, add), api.OK)
		if len(x.Packets()) != 0 || len(x.Answers()) != 0 {
			t.Fatalf("it tells what may be lost")
		}
		d.Crash(0)
		x = opened(t, 2, d)
		if l := x.Packets(); !slices.EqualFunc(l, was, packet.Same) {
			t.Fatalf("Packets: %v, not %v", l, was)
		}
	}
}

package shard

import (
	"math/rand"
	"slices"
	"testing"

	"trug/api"
	"trug/msg"
	"trug/op"
	"trug/packet"
)

// world is the shards of the great tree, the packets between them, and all events that were told, by sellers.
type world struct {
	t      *testing.T
	r      *rand.Rand
	shards map[int]*Shard
	next   map[[2]int]uint64 // which text of the one the other one takes next
	way    []packet.Packet
	told   map[int][]op.Event
	left   int
	lost   int
}

// nodes is the shards of the great tree.
func nodes() []int { return []int{2, 3, 7, 8, 12} }

// newWorld is shards, of which 2 and 3 founded sellers.
func newWorld(t *testing.T, r *rand.Rand, lost int) *world {
	t.Helper()
	w := &world{t: t, r: r, shards: map[int]*Shard{}, next: map[[2]int]uint64{}, told: map[int][]op.Event{}, lost: lost}
	for _, n := range nodes() {
		w.shards[n], _ = start(t, n)
	}
	for seller, n := range map[int]int{1: 2, 2: 2, 3: 3} {
		if e := w.shards[n].Found(seller); e != api.OK {
			t.Fatalf("Found: %v", e)
		}
	}
	return w
}

// ask lets something new happen to a shard.
func (w *world) ask() {
	n, seller := nodes()[w.r.Intn(5)], 1+w.r.Intn(3)
	s := w.shards[n]
	switch w.r.Intn(8) {
	case 0, 1:
		s.Join(seller, nodes()[w.r.Intn(5)])
	case 2, 3:
		s.Leave(seller)
	default:
		if x, e := s.Do(1+w.r.Intn(2), seller, api.Vector{}, 0, add); e == api.OK {
			w.told[seller] = append(w.told[seller], x)
		}
	}
}

// pump lets all that a shard has to tell be on its way; what goes to serializers comes at once.
func (w *world) pump(n int) {
	l := w.shards[n].Links()
	for _, to := range l.Peers() {
		if p, is := l.Ack(to); is {
			w.way = append(w.way, p)
		}
	}
	for _, p := range l.Packets() {
		if w.shards[p.To] != nil {
			w.way = append(w.way, p)
		} else if _, e := l.Acked(p.To, p.Seq); e != api.OK {
			w.t.Fatalf("Acked: %v", e)
		}
	}
}

// deliver lets one of the packets come, or be lost, or double itself.
func (w *world) deliver() {
	if len(w.way) == 0 {
		return
	}
	i := w.r.Intn(len(w.way))
	p := w.way[i]
	if w.r.Intn(6) > 0 {
		w.way = slices.Delete(w.way, i, i+1)
	}
	if w.r.Intn(100) >= w.lost {
		w.come(p)
	}
}

// come lets a packet come, as a node does it (28).
func (w *world) come(p packet.Packet) {
	w.t.Helper()
	s, pair := w.shards[p.To], [2]int{p.From, p.To}
	if p.Ack || p.Seq != w.next[pair]+1 {
		s.Links().Hear(p)
		return
	}
	m, e := msg.Read(p.Data)
	if e != api.OK {
		w.t.Fatalf("%x is no message", p.Data)
	}
	if e := s.May(p.From, m); e == api.ErrBusy || e == api.ErrFull {
		return // it comes again
	} else if e != api.OK {
		w.t.Fatalf("May: %v", e)
	}
	if _, is, e := s.Links().Hear(p); !is || e != api.OK {
		w.t.Fatalf("Hear: %v %v", is, e)
	}
	w.next[pair]++
	w.hear(s, p.From, m)
}

// hear lets a message be heard: an event of a seller to which a shard subscribes is always a new one.
func (w *world) hear(s *Shard, from int, m msg.Msg) {
	w.t.Helper()
	x := m.Event
	old := slices.ContainsFunc(s.Store().Events(x.Label.Seller), func(y op.Event) bool { return op.Same(x, y) })
	if old {
		w.t.Fatalf("from %d, it is told again: %v", from, m)
	}
	was := s.Unclean()
	s.Clean()
	if e := s.Hear(from, m); e != api.OK {
		w.t.Fatalf("Hear: %v", e)
	}
	if s.Unclean() {
		w.left++
	} else if was {
		s.Soil()
	}
}

// check asks P24.7: of sellers to which a shard does not subscribe it has nothing, and tells nothing.
func (w *world) check() {
	w.t.Helper()
	for n, s := range w.shards {
		for _, seller := range s.Store().Sellers() {
			if s.Peers().State(seller) == 0 {
				w.t.Fatalf("the shard %d has events of the seller %d", n, seller)
			}
		}
		for _, p := range s.Links().Packets() {
			m, e := msg.Read(p.Data)
			if seller := m.Event.Label.Seller; e != api.OK || seller != 0 && s.Peers().State(seller) == 0 {
				w.t.Fatalf("the shard %d tells %v", n, m)
			}
		}
	}
}

// rest lets all come that is on its way, and nothing new happen.
func (w *world) rest() {
	w.t.Helper()
	w.lost = 0
	for range 200 {
		quiet := true
		for _, n := range nodes() {
			quiet = quiet && len(w.shards[n].Links().Packets()) == 0
			w.pump(n)
		}
		for len(w.way) > 0 {
			p := w.way[0]
			w.way = w.way[1:]
			w.come(p)
		}
		if quiet {
			return
		}
	}
	w.t.Fatalf("it does not come to rest")
}

// agrees asks that at rest all that are ready for a seller have all events of it that were told.
func (w *world) agrees() int {
	w.t.Helper()
	ready := 0
	for seller := 1; seller <= 3; seller++ {
		holders := 0
		for _, n := range nodes() {
			s := w.shards[n]
			switch s.Peers().State(seller) {
			case 1, 3:
				w.t.Fatalf("the shard %d waits still", n)
			case 2:
				holders++
				w.wantAll(s, seller)
			}
		}
		if holders == 0 {
			w.t.Fatalf("nobody has the seller %d", seller)
		}
		ready += holders
	}
	return ready
}

// wantAll asks that a shard has all events of a seller.
func (w *world) wantAll(s *Shard, seller int) {
	w.t.Helper()
	got := s.Store().Events(seller)
	if len(got) != len(w.told[seller]) {
		w.t.Fatalf("it has %d events, not %d", len(got), len(w.told[seller]))
	}
	for _, x := range w.told[seller] {
		if !slices.ContainsFunc(got, func(y op.Event) bool { return op.Same(x, y) }) {
			w.t.Fatalf("it has not %v", x)
		}
	}
}

// TestNet: P24.7 and P24.8, shards that join, leave and order over a net that loses, doubles and mixes: each is told each event once, and at rest all have the same.
func TestNet(t *testing.T) {
	r := rand.New(rand.NewSource(1))
	ready, left, events := 0, 0, 0
	for range 60 {
		w := newWorld(t, r, []int{0, 10, 40}[r.Intn(3)])
		for range 3000 {
			switch k := r.Intn(30); {
			case k == 0 && len(w.told[1])+len(w.told[2])+len(w.told[3]) < 190:
				w.ask()
			case k < 8 && len(w.way) < 300:
				w.pump(nodes()[r.Intn(5)])
			default:
				w.deliver()
			}
			w.check()
		}
		w.rest()
		w.check()
		ready += w.agrees()
		left += w.left
		for _, list := range w.told {
			events += len(list)
		}
	}
	if ready < 250 || left < 50 || events < 500 {
		t.Errorf("%d %d %d: of little worth", ready, left, events)
	}
}

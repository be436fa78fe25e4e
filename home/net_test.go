package home

import (
	"math/rand"
	"slices"
	"testing"

	"trug/api"
	"trug/cuts"
	"trug/msg"
	"trug/packet"
)

// world is the homes of a tree, the packets between them, and which text of the one the other one takes next.
type world struct {
	t     *testing.T
	r     *rand.Rand
	homes map[int]*Home
	next  map[[2]int]uint64
	way   []packet.Packet
	told  map[int][]msg.Msg // labels, by carts
	lost  int
	cuts  map[[2]int]cuts.Cut // by cart and round: what some home told first
}

// newWorld is homes to which nothing happened.
func newWorld(t *testing.T, r *rand.Rand, lost int, nodes ...int) *world {
	t.Helper()
	w := &world{t: t, r: r, homes: map[int]*Home{}, next: map[[2]int]uint64{}, told: map[int][]msg.Msg{}, lost: lost, cuts: map[[2]int]cuts.Cut{}}
	for _, n := range nodes {
		w.homes[n], _ = start(t, n)
	}
	return w
}

// nodes is the homes, rising.
func (w *world) nodes() []int {
	var out []int
	for n := range 13 {
		if w.homes[n] != nil {
			out = append(out, n)
		}
	}
	return out
}

// any is one of the homes.
func (w *world) any() int {
	nodes := w.nodes()
	return nodes[w.r.Intn(len(nodes))]
}

// ask lets something new happen: a label comes to homes, not to each at once, or one checks out.
func (w *world) ask() {
	cart := 1 + w.r.Intn(3)
	if w.r.Intn(2) == 0 {
		w.homes[w.any()].Checkout(cart, api.Vector{}, uint64(w.r.Intn(3)))
		return
	}
	n := uint32(len(w.told[cart]) + 1)
	if n < 200 {
		w.told[cart] = append(w.told[cart], msg.Of(at(uint64(n), cart, 1, 8, n)))
	}
}

// label lets one of the labels come to a home.
func (w *world) label() {
	cart := 1 + w.r.Intn(3)
	if list := w.told[cart]; len(list) > 0 {
		w.homes[w.any()].Hear(9, list[max(0, len(list)-1-w.r.Intn(3))])
	}
}

// pump lets all that a home has to tell be on its way.
func (w *world) pump(n int) {
	l := w.homes[n].Links()
	for _, to := range l.Peers() {
		if p, is := l.Ack(to); is {
			w.way = append(w.way, p)
		}
	}
	w.way = append(w.way, l.Packets()...)
}

// deliver lets one of the packets come, or be lost, or double itself.
func (w *world) deliver() {
	if len(w.way) == 0 {
		return
	}
	i := w.r.Intn(len(w.way))
	p := w.way[i]
	if w.r.Intn(6) > 0 {
		w.way = slices.Delete(w.way, i, i+1)
	}
	if w.r.Intn(100) >= w.lost {
		w.come(p)
	}
}

// come lets a packet come, as a node does it (28).
func (w *world) come(p packet.Packet) {
	w.t.Helper()
	h, pair := w.homes[p.To], [2]int{p.From, p.To}
	if p.Ack || p.Seq != w.next[pair]+1 {
		h.Links().Hear(p)
		return
	}
	m, e := msg.Read(p.Data)
	if e != api.OK {
		w.t.Fatalf("%x is no message", p.Data)
	}
	if e := h.May(p.From, m); e == api.ErrBusy {
		return // it comes again
	} else if e != api.OK {
		w.t.Fatalf("May: %v", e)
	}
	if _, is, e := h.Links().Hear(p); !is || e != api.OK {
		w.t.Fatalf("Hear: %v %v", is, e)
	}
	w.next[pair]++
	if e := h.Hear(p.From, m); e != api.OK {
		w.t.Fatalf("Hear: %v", e)
	}
}

// check asks P11.5 and P5: whoever has a round's cut, has the same one, and keeps it.
func (w *world) check() {
	w.t.Helper()
	for _, n := range w.nodes() {
		for cart := 1; cart <= 12; cart++ {
			for i, c := range w.homes[n].Cuts(cart).Cuts() {
				was, is := w.cuts[[2]int{cart, i}]
				if is && was != c {
					w.t.Fatalf("the home %d, the cart %d, the round %d: %v, not %v", n, cart, i+1, c, was)
				}
				w.cuts[[2]int{cart, i}] = c
			}
		}
	}
}

// rest lets all come that is on its way, and nothing new happen.
func (w *world) rest() {
	w.t.Helper()
	w.lost = 0
	for range 300 {
		quiet := true
		for _, n := range w.nodes() {
			quiet = quiet && len(w.homes[n].Links().Packets()) == 0
			for _, list := range w.told {
				for _, m := range list {
					w.homes[n].Hear(9, m)
				}
			}
			w.pump(n)
		}
		for len(w.way) > 0 {
			p := w.way[0]
			w.way = w.way[1:]
			w.come(p)
		}
		w.check()
		if quiet {
			return
		}
	}
	w.t.Fatalf("it does not come to rest")
}

// agrees asks that at rest both homes of each cart have the same cuts, and views; how many cuts there are.
func (w *world) agrees() int {
	w.t.Helper()
	all := 0
	for _, n := range w.nodes() {
		for cart := 1; cart <= 12; cart++ {
			u := w.homes[n].Cuts(cart)
			if u == nil {
				continue
			}
			a, e := w.homes[n].View(cart, api.Vector{}, len(u.Cuts()))
			b, f := w.homes[u.Other()].View(cart, api.Vector{}, len(u.Cuts()))
			if e != api.OK || f != api.OK || a.Vector != b.Vector || a.From != b.From || !slices.Equal(a.Cuts, b.Cuts) {
				w.t.Fatalf("the cart %d: %v %v, %v %v", cart, a, e, b, f)
			}
			if _, is := u.Own(); is {
				w.t.Fatalf("the home %d waits still, of the cart %d", n, cart)
			}
			all += len(u.Cuts())
		}
	}
	return all
}

// TestNet: P11.5 and P5, homes that check out over a net that loses, doubles and mixes: a round's cut is one, and at rest all have all.
func TestNet(t *testing.T) {
	r := rand.New(rand.NewSource(1))
	all := 0
	for run := range 60 {
		nodes := [][]int{{2, 12}, {1, 6, 10}}[run%2]
		w := newWorld(t, r, []int{0, 10, 40}[r.Intn(3)], nodes...)
		for range 3000 {
			switch k := r.Intn(30); {
			case k < 3:
				w.ask()
			case k < 9:
				w.label()
			case k < 14 && len(w.way) < 200:
				w.pump(w.any())
			default:
				w.deliver()
			}
			w.check()
		}
		w.rest()
		all += w.agrees()
	}
	if all < 1000 {
		t.Errorf("%d: of little worth", all)
	}
}

// TestBoth: P11.5 and P5, of two proposals at once the one with the least Time counts, of equal ones that of the lesser home.
func TestBoth(t *testing.T) {
	for _, c := range []struct {
		a, b uint64
		home int
	}{{5, 6, 2}, {6, 5, 12}, {5, 5, 2}} {
		w := newWorld(t, rand.New(rand.NewSource(1)), 0, 2, 12)
		w.told[1] = []msg.Msg{msg.Of(at(1, 1, 2, 8, 1)), msg.Of(at(1, 1, 2, 7, 1))}
		w.homes[2].Hear(1, w.told[1][0])
		w.homes[12].Hear(1, w.told[1][1])
		n, e := w.homes[2].Checkout(1, api.Vector{}, c.a)
		k, f := w.homes[12].Checkout(1, api.Vector{}, c.b)
		if n != 1 || k != 1 || e != api.OK || f != api.OK {
			t.Fatalf("Checkout: %d %v, %d %v", n, e, k, f)
		}
		w.rest()
		if all := w.agrees(); all != 2 || w.cuts[[2]int{1, 0}].Home != c.home || w.cuts[[2]int{1, 0}].Time != min(c.a, c.b)+1 {
			t.Errorf("%v", w.cuts)
		}
	}
}

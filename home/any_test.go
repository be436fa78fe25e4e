package home

import (
	"math/rand"
	"testing"

	"trug/api"
	"trug/clock"
	"trug/cuts"
	"trug/label"
	"trug/msg"
)

// anyOf is one of a list.
func anyOf(r *rand.Rand, list ...int) int { return list[r.Intn(len(list))] }

// anyVector is a vector of few events.
func anyVector(r *rand.Rand, dots int) (v api.Vector) {
	for range r.Intn(4) {
		v[anyOf(r, 1, 2, 6)] = uint32(r.Intn(dots + 1))
	}
	return v
}

// anyLabel is a label, of few dots; one of many may not be.
func anyLabel(r *rand.Rand, dots int) label.Label {
	l := at(uint64(1+r.Intn(2000)), anyOf(r, 1, 2, 3, 12), anyOf(r, 1, 2, 7, 12, r.Intn(13)), anyOf(r, 2, 3, 7), uint32(1+r.Intn(dots)))
	if r.Intn(3) == 0 {
		l.Deps = clock.Join(l.Deps, anyVector(r, 2))
		l.Deps[l.Node-1] = l.N - 1
	}
	if r.Intn(50) == 0 {
		l.Deps[r.Intn(12)]++
	}
	return l
}

// anyStance is a stance.
func anyStance(r *rand.Rand) cuts.Stance {
	if r.Intn(3) == 0 {
		return promise
	}
	return cuts.Stance{Has: true, Time: uint64(1 + r.Intn(2000)), Cut: anyVector(r, 3)}
}

// anyRound is a round near to the next one of a cart.
func (b *both) anyRound(r *rand.Rand, cart int) int {
	c := b.m.carts[cart]
	if c == nil || r.Intn(6) == 0 {
		return r.Intn(23)
	}
	return len(c.cuts) + 1 - r.Intn(7)/5 + r.Intn(7)/6
}

// any asks the home for anything.
func (b *both) any(r *rand.Rand, dots int) {
	b.t.Helper()
	cart := anyOf(r, 1, 2, 3, 12, r.Intn(14))
	switch r.Intn(12) {
	case 0, 1:
		time := []uint64{0, uint64(r.Intn(3000)), api.MaxTime + 1}[min(r.Intn(40), 2)%3]
		seen := unseen
		if r.Intn(4) == 0 {
			seen = anyVector(r, 3)
		}
		b.checkout(cart, seen, time)
	case 2:
		b.view(cart, anyVector(r, 2), r.Intn(4))
		b.view(cart, unseen, 0)
	case 3:
		b.parts(cart, anyVector(r, dots), anyVector(r, dots))
	case 4, 5, 6, 7:
		b.hear(anyOf(r, 0, 1, 2, 4, 6, 10, 12), msg.Say(cart, b.anyRound(r, cart), anyStance(r)))
	case 8:
		b.hear(r.Intn(14), others()[r.Intn(8)])
	default:
		b.hear(anyOf(r, 4, 1, r.Intn(14)), msg.Of(anyLabel(r, dots)))
	}
}

// closed asks P25.7: of each event that a view tells, the Deps too.
func (b *both) closed(heard []label.Label) {
	b.t.Helper()
	for _, l := range heard {
		v, e := b.h.View(l.Cart, unseen, 0)
		if e == api.OK && clock.Has(v.Vector, label.Dot(l)) && !clock.Covers(v.Vector, l.Deps) {
			b.t.Fatalf("%v is there, but not all on which it depends: %v", l, v.Vector)
		}
	}
}

// TestAny: P25.1 to P25.5, whatever is asked: what is told, and what stands there, is what the document says.
func TestAny(t *testing.T) {
	r := rand.New(rand.NewSource(1))
	full, room, rounds := 0, 0, 0
	for range 300 {
		b := begin(t, anyOf(r, 1, 6, 10, 2, 12, 3))
		dots := anyOf(r, 3, 20, 200)
		many := anyOf(r, 0, 0, 0, 0, 0, 0, 0, 4) // so that an index is full now and then
		for range anyOf(r, 60, 300, 900) {
			b.any(r, dots)
			for range many {
				l := anyLabel(r, 200)
				l.Cart = 12
				b.hear(4, msg.Of(l))
			}
			to := anyOf(r, 1, 2, 6, 10, 12)
			switch r.Intn(60) {
			case 0:
				b.has()
			case 1:
				b.again()
			case 2:
				if to != b.m.node {
					b.send(to, 250-len(b.m.queue[to])-r.Intn(min(3, 251-len(b.m.queue[to]))))
				}
			case 3, 4:
				if list := b.m.queue[to]; len(list) > 0 {
					b.acked(to, list[r.Intn(len(list))].seq)
				}
			}
			if !b.m.room(to) {
				room++
			}
		}
		b.has()
		for _, c := range b.m.carts {
			if len(c.entries)+len(c.waits) == 400 {
				full++
			}
			rounds += len(c.cuts)
		}
	}
	if full < 5 || room < 1000 || rounds < 800 {
		t.Errorf("%d %d %d: of little worth", full, room, rounds)
	}
}

// TestClosed: P25.7, labels in any order, that depend on each other: what a view tells is closed.
func TestClosed(t *testing.T) {
	r := rand.New(rand.NewSource(2))
	for range 200 {
		b := begin(t, 3)
		var known [13]api.Vector
		var all []label.Label
		for n := range 60 {
			cart, node := anyOf(r, 1, 5), anyOf(r, 1, 2, 7)
			d, _ := clock.Next(known[cart], node)
			l := label.Label{Time: uint64(n + 1), Node: node, N: d.N, Cart: cart, Seller: 1 + r.Intn(12), Deps: clock.Meet(known[cart], anyVector(r, 20))}
			l.Deps[node-1] = d.N - 1
			known[cart] = clock.With(known[cart], d)
			all = append(all, l)
		}
		r.Shuffle(len(all), func(i, j int) { all[i], all[j] = all[j], all[i] })
		for i, l := range all {
			b.hear(2, msg.Of(l), api.OK)
			b.closed(all[:i+1])
		}
		b.view(1, known[1], 0, api.OK)
		b.view(5, known[5], 0, api.OK)
		b.has()
	}
}

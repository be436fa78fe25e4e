package shard

import (
	"math"
	"math/rand"
	"testing"

	"trug/api"
	"trug/cuts"
	"trug/label"
	"trug/msg"
	"trug/op"
)

// anyOp is an op, one of eight of which may not be.
func anyOp(r *rand.Rand) op.Op {
	return []op.Op{
		{Kind: 1, Sku: 1 + r.Intn(3), Qty: 1 + r.Intn(9)}, {Kind: 2, Sku: 1 + r.Intn(3), Qty: -1}, {Kind: 3, Sku: 1 + r.Intn(3)}, {Kind: 4},
		{Kind: 5, Sku: 2, Qty: 1 + r.Intn(3)}, {Kind: 6, Sku: 2, Price: math.NaN()}, {Kind: 6, Sku: 1, Price: r.Float64()}, {Kind: r.Intn(9), Sku: 1, Qty: 7},
	}[r.Intn(8)]
}

// anyOf is one of a list.
func anyOf(r *rand.Rand, list ...int) int { return list[r.Intn(len(list))] }

// anyEvent is an event of any node, of few dots; one of many may not be.
func anyEvent(r *rand.Rand, dots int) op.Event {
	l := label.Label{Time: uint64(1 + r.Intn(2000)), Node: anyOf(r, 2, 3, 7, 8), N: uint32(1 + r.Intn(dots)), Cart: anyOf(r, 1, 2, 12), Seller: anyOf(r, 1, 2, 2, 3, 12)}
	l.Deps[r.Intn(12)] = uint32(r.Intn(3))
	l.Deps[l.Node-1] = l.N - 1
	x := op.Event{Label: l, Op: anyOp(r)}
	if !op.Right(x) && r.Intn(3) > 0 {
		x.Op = add
	}
	return x
}

// anyMessage is a message, of which most may be.
func anyMessage(r *rand.Rand, dots int) msg.Msg {
	seller := anyOf(r, 1, 2, 3, 12, r.Intn(14))
	switch r.Intn(10) {
	case 0:
		return msg.Of(anyEvent(r, dots).Label)
	case 1:
		return msg.Say(1+r.Intn(12), 1+r.Intn(21), cuts.Stance{})
	case 2, 3, 4:
		return msg.Hand(anyEvent(r, dots))
	case 5:
		return msg.Part(anyEvent(r, dots))
	case 6:
		return msg.End(seller, r.Intn(201))
	}
	return msg.Ask(anyOf(r, 4, 4, 6, 7, 7, 8, 9, r.Intn(12)), seller)
}

// any asks the shard for anything.
func (b *both) any(r *rand.Rand, dots int) {
	b.t.Helper()
	seller := anyOf(r, 1, 2, 3, 12, r.Intn(14))
	source := anyOf(r, 3, 7, 8, 12, r.Intn(14))
	switch r.Intn(12) {
	case 0:
		b.found(anyOf(r, 1, 2))
	case 1:
		b.join(seller, source)
	case 2:
		b.leave(seller)
	case 3, 4, 5:
		seen := b.m.known[1]
		if r.Intn(9) == 0 {
			seen[r.Intn(12)] = []uint32{1, 9, api.MaxCount, api.MaxCount + 1}[r.Intn(4)]
		}
		time := []uint64{0, uint64(r.Intn(3000)), api.MaxTime + 1}[min(r.Intn(40), 2)%3]
		b.do(anyOf(r, 1, 1, 2, 12, r.Intn(15)-1), seller, seen, time, anyOp(r))
	case 6:
		n := 1 + r.Intn(12)
		if list := b.m.queue[n]; len(list) > 0 {
			b.acked(n, list[r.Intn(len(list))].seq)
		}
	default:
		b.hear(source, anyMessage(r, dots))
	}
}

// TestAny: P24.1 to P24.6, whatever is asked: what is told, and what stands there, is what the document says.
func TestAny(t *testing.T) {
	r := rand.New(rand.NewSource(1))
	wiped, busy, full := 0, 0, 0
	for range 150 {
		b := begin(t, anyOf(r, 2, 2, 7, 12))
		dots := anyOf(r, 3, 20, 200)
		many := r.Intn(6) == 0 // so that its store is full now and then
		for range anyOf(r, 60, 300, 900) {
			b.any(r, dots)
			if many && len(b.m.events) < 198+r.Intn(3) {
				b.hear(anyOf(r, 3, 8), msg.Hand(anyEvent(r, 200)))
				b.hear(anyOf(r, 3, 8), msg.Hand(anyEvent(r, 200)))
				b.ackedAll()
			}
			switch r.Intn(60) {
			case 0:
				b.has()
				b.again()
			case 1:
				b.s.Clean()
				b.m.unclean = false
			case 2:
				n := anyOf(r, 3, 7, 8)
				if n != b.m.node {
					b.send(n, r.Intn(1+250-len(b.m.queue[n])))
				}
			}
			if b.m.unclean {
				wiped++
			}
			if !b.m.rooms([]int{3, 7, 8}) {
				busy++
			}
			if len(b.m.events) == 200 {
				full++
			}
		}
		b.has()
	}
	if wiped < 200 || busy < 1000 || full < 1000 {
		t.Errorf("%d %d %d: of little worth", wiped, busy, full)
	}
}

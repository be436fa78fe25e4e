package step

import (
	"slices"
	"testing"

	"trug/api"
	"trug/cuts"
	"trug/msg"
	"trug/packet"
	"trug/state"
	"trug/wire"
)

// TestAck: P28.1 and P28.2, an Ack is the links', and idle, if nothing is acknowledged by it.
func TestAck(t *testing.T) {
	s := made(t, 2)
	does(t, s, ack(4, 2, 1), true, api.ErrNone) // the document's example
	does(t, s, foundOf(3), false, api.OK)
	for range 5 {
		does(t, s, orderOf(1, 3, api.Vector{}, 0, add), false, api.OK)
	}
	does(t, s, ack(3, 2, 1), true, api.ErrNone)
	does(t, s, ack(7, 2, 1), true, api.ErrNone)
	does(t, s, ack(4, 2, 6), true, api.ErrAway)
	does(t, s, ack(4, 2, api.MaxTime), true, api.ErrAway)
	does(t, s, ack(4, 3, 1), true, api.ErrNode)
	does(t, s, ack(4, 2, 2), false, api.OK)
	does(t, s, ack(4, 2, 2), true, api.OK)
	does(t, s, ack(4, 2, 1), true, api.OK)
	if q := s.Links().Queue(4); len(q) != 3 || q[0].Seq != 3 {
		t.Errorf("Queue: %v", q)
	}
	does(t, s, ack(4, 2, 3), false, api.OK)
	does(t, s, ack(4, 2, 5), false, api.OK)
	does(t, s, ack(4, 2, 5), true, api.OK)
	does(t, s, ack(4, 2, 6), true, api.ErrAway)
	h := made(t, 1)
	does(t, h, text(4, 1, 1, msg.Of(of(2, 1, 1))), false, api.OK)
	does(t, h, ack(4, 1, 1), true, api.ErrAway) // there is a link, through which nothing was sent
}

// TestText: P28.1 and P28.2, a text is taken in its turn alone, and once.
func TestText(t *testing.T) {
	s := made(t, 5)
	first, second, third := text(3, 5, 1, msg.Of(of(3, 1, 1))), text(3, 5, 2, msg.Of(of(3, 1, 2))), text(3, 5, 3, msg.Of(of(3, 2, 1)))
	does(t, s, second, true, api.ErrAway)
	does(t, s, first, false, api.OK)
	does(t, s, first, true, api.OK)
	does(t, s, third, true, api.ErrAway)
	does(t, s, second, false, api.OK)
	does(t, s, first, true, api.OK)
	does(t, s, third, false, api.OK)
	does(t, s, second, true, api.OK)
	if came, _ := s.Relay().Count(3); came != 3 || len(s.Links().Queue(4)) != 3 || len(s.Links().Queue(9)) != 3 {
		t.Errorf("%d %v", came, s.Links().Queue(4))
	}
	for i, x := range s.Links().Queue(4) {
		want := []packet.Packet{first.Packet, second.Packet, third.Packet}[i].Data
		if string(x.Data) != string(want) {
			t.Errorf("to 4: %x, not %x", x.Data, want)
		}
	}
	does(t, s, text(9, 5, 1, msg.Of(of(12, 1, 1))), false, api.OK) // each neighbour counts on its own
	if p, is := s.Links().Ack(3); !is || p.Seq != 3 {
		t.Errorf("Ack: %v", p)
	}
}

// TestTextTurn: P28.1, what is no message is ErrForm, in its turn or not, and the state is asked just in its turn.
func TestTextTurn(t *testing.T) {
	s := made(t, 5)
	bad := func(seq uint64) packet.Packet { return packet.Packet{From: 3, To: 5, Seq: seq, Data: []byte{1, 2}} }
	for seq := uint64(1); seq < 4; seq++ {
		does(t, s, packetOf(bad(seq)), true, api.ErrForm)
	}
	does(t, s, text(3, 5, 1, msg.Ask(4, 3)), false, api.OK) // no label: it is taken, all the same
	does(t, s, packetOf(bad(1)), true, api.ErrForm)
	p := bad(1)
	p.To = 4
	does(t, s, packetOf(p), true, api.ErrNode)
	does(t, s, text(2, 5, 1, msg.Of(of(2, 1, 1))), true, api.ErrNode) // no neighbour
	does(t, s, text(2, 5, 2, msg.Of(of(2, 1, 1))), true, api.ErrAway)
	does(t, s, text(3, 5, 3, msg.Of(of(3, 1, 1))), true, api.ErrAway)
	if !slices.Equal(s.Links().Peers(), []int{3}) {
		t.Errorf("Peers: %v", s.Links().Peers())
	}
	late := of(3, 1, 1)
	late.Time = api.MaxTime
	long := text(3, 5, 2, msg.Of(late))
	long.Packet.Data = append(long.Packet.Data, 0)
	does(t, s, long, true, api.ErrForm)
	does(t, s, text(3, 5, 2, msg.Of(late)), false, api.OK)
}

// TestBusy: P28.1 and P28.3, what May refuses is not taken, and is taken when there is room.
func TestBusy(t *testing.T) {
	s := made(t, 5)
	for range 250 {
		s.Links().Send(9, []byte{0})
	}
	x := text(3, 5, 1, msg.Of(of(3, 1, 1)))
	does(t, s, x, true, api.ErrBusy)
	does(t, s, x, true, api.ErrBusy)
	does(t, s, text(9, 5, 1, msg.Of(of(12, 1, 1))), false, api.OK) // it goes to 4 alone
	does(t, s, ack(9, 5, 1), false, api.OK)
	does(t, s, x, false, api.OK)
	does(t, s, text(3, 5, 2, msg.Of(of(3, 1, 2))), true, api.ErrBusy)
	does(t, s, x, true, api.OK) // it came ahead: nobody asks whether there is room
	h := made(t, 1)
	for range 250 {
		h.Links().Send(6, []byte{0})
	}
	propose := text(6, 1, 1, msg.Say(1, 1, cuts.Stance{Has: true, Time: 5}))
	does(t, h, propose, true, api.ErrBusy)
	does(t, h, ack(6, 1, 250), false, api.OK)
	does(t, h, propose, false, api.OK)
	d := made(t, 2)
	does(t, d, foundOf(3), false, api.OK)
	for range 250 {
		d.Links().Send(12, []byte{0})
	}
	does(t, d, text(12, 2, 1, msg.Ask(4, 3)), true, api.ErrBusy)
	does(t, d, ack(12, 2, 9), false, api.OK)
	does(t, d, text(12, 2, 1, msg.Ask(4, 3)), false, api.OK)
}

// TestOthers: P28.1, a shard hears shards alone; a home hears labels of whoever sends them; a packet may come from a node that is not there.
func TestOthers(t *testing.T) {
	d, h := made(t, 2), made(t, 1)
	for _, n := range []int{1, 4, 6, 8, 11} {
		does(t, d, text(n, 2, 1, msg.Ask(4, 3)), true, api.ErrNode)
	}
	for i, n := range []int{4, 2, 6, 11} {
		does(t, h, text(n, 1, 1, msg.Of(of(3, 5, uint32(i+1)))), false, api.OK)
	}
	if v := h.Home().Index(5).Vector(); v != (api.Vector{2: 4}) || !slices.Equal(h.Links().Peers(), []int{2, 4, 6, 11}) {
		t.Errorf("%v %v", v, h.Links().Peers())
	}
	does(t, h, text(2, 1, 2, msg.Ask(4, 3)), false, api.OK) // nothing to a home, but it is taken
}

// TestLast: P28.1, the last number that there is.
func TestLast(t *testing.T) {
	w := wire.New().Num(0).Num(0).Num(0).Num(0).Num(0).Num(0)
	w.Num(5).Num(1).Num(3).Num(1).Num(0).Num(api.MaxTime) // of 3 it takes the last one next
	s, e := state.Load(great(), 5, w.Bytes())
	if e != api.OK {
		t.Fatalf("Load: %v", e)
	}
	last := text(3, 5, api.MaxTime, msg.Of(of(3, 1, 1)))
	does(t, s, text(3, 5, api.MaxTime-1, msg.Of(of(3, 1, 1))), true, api.OK)
	does(t, s, last, false, api.OK)
	does(t, s, last, true, api.OK)
	does(t, s, ack(4, 5, 1), false, api.OK)
}

// TestOwnMemory: the rule 5, a packet's Data is neither changed nor kept.
func TestOwnMemory(t *testing.T) {
	s := made(t, 5)
	x := text(3, 5, 1, msg.Of(of(3, 1, 1)))
	was := string(x.Packet.Data)
	does(t, s, x, false, api.OK)
	if string(x.Packet.Data) != was {
		t.Errorf("changed: %x", x.Packet.Data)
	}
	clear(x.Packet.Data)
	if q := s.Links().Queue(9); len(q) != 1 || string(q[0].Data) != was {
		t.Errorf("kept: %v", q)
	}
}

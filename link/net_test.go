package link

import (
	"bytes"
	"math/rand"
	"strconv"
	"testing"

	"trug/api"
)

// letter is what goes over the net: a text, or what acknowledges texts.
type letter struct {
	ack bool
	Item
}

// side is one of two links, and what it sent and took.
type side struct {
	l          *Link
	sent, took []string
	acked      int      // how many of those that it sent
	way        []letter // to it
}

// send lets a side send a text, if it may.
func (s *side) send(t *testing.T) {
	t.Helper()
	b := strconv.Itoa(len(s.sent))
	n, e := s.l.Send([]byte(b))
	if e == api.ErrFull && len(s.l.Queue()) == api.MaxQueue {
		return
	}
	if e != api.OK || n != uint64(len(s.sent)+1) {
		t.Fatalf("Send: %d %v", n, e)
	}
	s.sent = append(s.sent, b)
}

// tell lets all that a side did not hear of as taken be on its way, and what acknowledges all that it took.
func (s *side) tell(other *side) {
	for _, x := range s.l.Queue() {
		other.way = append(other.way, letter{false, x})
	}
	if n := s.l.Expect(); n > 1 {
		other.way = append(other.way, letter{true, Item{n - 1, nil}})
	}
}

// hear lets a letter come.
func (s *side) hear(t *testing.T, x letter) {
	t.Helper()
	if x.ack {
		n, e := s.l.Acked(x.Seq)
		if e != api.OK {
			t.Fatalf("Acked(%d): %v", x.Seq, e)
		}
		s.acked += n
		return
	}
	is, e := s.l.Take(x.Seq)
	if e != api.OK && (e != api.ErrAway || is) {
		t.Fatalf("Take(%d): %t %v", x.Seq, is, e)
	}
	if is {
		s.took = append(s.took, string(x.Data))
	}
}

// any lets one of those that are on their way come, double itself, or be lost.
func (s *side) any(t *testing.T, r *rand.Rand, lost int) {
	t.Helper()
	if len(s.way) == 0 {
		return
	}
	i := r.Intn(len(s.way))
	x := s.way[i]
	if r.Intn(4) == 0 {
		s.way = append(s.way, x)
	} else {
		s.way[i] = s.way[len(s.way)-1]
		s.way = s.way[:len(s.way)-1]
	}
	if r.Intn(100) >= lost {
		s.hear(t, x)
	}
}

// asks asks: what a side took is a beginning of what the other one sent, and what is acknowledged is a beginning of that.
func (s *side) asks(t *testing.T, other *side) {
	t.Helper()
	if len(s.took) > len(other.sent) || other.acked > len(s.took) {
		t.Fatalf("%d of %d are taken, %d acknowledged", len(s.took), len(other.sent), other.acked)
	}
	for i, b := range s.took {
		if b != other.sent[i] {
			t.Fatalf("took %q as the text %d", b, i+1)
		}
	}
	if q := other.l.Queue(); len(q) != len(other.sent)-other.acked {
		t.Fatalf("%d wait, of %d, of which %d are acknowledged", len(q), len(other.sent), other.acked)
	}
}

// crash lets a side go there and back, as behind a crash.
func (s *side) crash(t *testing.T, r *rand.Rand) {
	t.Helper()
	if r.Intn(40) == 0 {
		s.l = goesThere(t, s.l)
	}
}

// rest sends again till all is acknowledged, over a net that loses still.
func rest(t *testing.T, r *rand.Rand, sides [2]*side, lost int) {
	t.Helper()
	for round := 0; sides[0].acked < len(sides[0].sent) || sides[1].acked < len(sides[1].sent); round++ {
		if round > 1000 {
			t.Fatalf("it does not come to rest")
		}
		for i, s := range sides {
			s.tell(sides[1-i])
			for range 2 * len(sides[1-i].way) {
				sides[1-i].any(t, r, lost)
			}
			sides[1-i].asks(t, s)
		}
	}
}

// TestNet: P16.4, over a net that loses, doubles and mixes each text is taken once, in order; sent again till it is acknowledged, all of it is.
func TestNet(t *testing.T) {
	r := rand.New(rand.NewSource(3))
	all := 0
	for range 120 {
		sides := [2]*side{{l: New()}, {l: New()}}
		lost := []int{0, 20, 60}[r.Intn(3)]
		busy := 2 + r.Intn(6)
		for range r.Intn(300) {
			i := r.Intn(2)
			s, other := sides[i], sides[1-i]
			switch n := r.Intn(10); {
			case n < busy:
				s.send(t)
			case n < 8:
				s.any(t, r, lost)
			default:
				s.tell(other)
			}
			s.crash(t, r)
			s.asks(t, other)
			other.asks(t, s)
		}
		rest(t, r, sides, lost)
		for i, s := range sides {
			other := sides[1-i]
			s.asks(t, other)
			if len(s.took) != len(other.sent) || len(other.l.Queue()) != 0 {
				t.Fatalf("%d of %d texts are taken", len(s.took), len(other.sent))
			}
			all += len(s.took)
		}
	}
	if all < 5000 {
		t.Errorf("just %d texts: of little worth", all)
	}
}

// TestNetAlone: P16.4, a net that loses everything: nothing is taken, and all waits.
func TestNetAlone(t *testing.T) {
	s := &side{l: New()}
	other := &side{l: New()}
	for range api.MaxQueue + 10 {
		s.send(t)
		s.tell(other)
		other.way = nil
	}
	other.asks(t, s)
	if q := s.l.Queue(); len(q) != api.MaxQueue || !bytes.Equal(q[0].Data, []byte("0")) {
		t.Errorf("%d wait", len(q))
	}
	s.tell(other)
	for _, x := range other.way { // in order, and none is lost: all comes at once
		other.hear(t, x)
	}
	other.tell(s)
	s.hear(t, s.way[0])
	if len(other.took) != api.MaxQueue || s.acked != api.MaxQueue {
		t.Errorf("%d taken, %d acknowledged", len(other.took), s.acked)
	}
}

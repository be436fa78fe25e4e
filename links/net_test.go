package links

import (
	"math/rand"
	"strconv"
	"testing"

	"trug/api"
	"trug/packet"
)

// world is nodes, by number, the packets on their way between them, and, from each to each, what was sent and taken.
type world struct {
	nodes      map[int]*Links
	sent, took map[[2]int][]string
	way        []packet.Packet
}

// newWorld is nodes that told each other nothing.
func newWorld(t *testing.T, nodes ...int) *world {
	t.Helper()
	w := &world{map[int]*Links{}, map[[2]int][]string{}, map[[2]int][]string{}, nil}
	for _, n := range nodes {
		w.nodes[n], _ = start(t, n)
	}
	return w
}

// send lets a node send a text to another one, if it may.
func (w *world) send(t *testing.T, from, to int) {
	t.Helper()
	pair := [2]int{from, to}
	l := w.nodes[from]
	b := strconv.Itoa(from) + " " + strconv.Itoa(to) + " " + strconv.Itoa(len(w.sent[pair]))
	room := l.Room(to)
	seq, e := l.Send(to, []byte(b))
	if room == 0 && e == api.ErrFull {
		return
	}
	if e != api.OK || seq != uint64(len(w.sent[pair])+1) || l.Room(to) != room-1 {
		t.Fatalf("Send from %d to %d: %d %v", from, to, seq, e)
	}
	w.sent[pair] = append(w.sent[pair], b)
}

// tell lets all that a node has to tell be on its way.
func (w *world) tell(from int) {
	l := w.nodes[from]
	w.way = append(w.way, l.Packets()...)
	for _, to := range l.Peers() {
		if p, is := l.Ack(to); is {
			w.way = append(w.way, p)
		}
	}
}

// any lets one of the packets on their way come, double itself, or be lost.
func (w *world) any(t *testing.T, r *rand.Rand, lost int) {
	t.Helper()
	if len(w.way) == 0 {
		return
	}
	i := r.Intn(len(w.way))
	p := w.way[i]
	if r.Intn(4) == 0 {
		w.way = append(w.way, p)
	} else {
		w.way[i] = w.way[len(w.way)-1]
		w.way = w.way[:len(w.way)-1]
	}
	if r.Intn(100) >= lost {
		w.hear(t, p)
	}
}

// hear lets a packet come, as bytes, and asks: what is taken is the next one of those that were sent.
func (w *world) hear(t *testing.T, p packet.Packet) {
	t.Helper()
	b, e := packet.Write(p)
	if e != api.OK {
		t.Fatalf("a packet that may not be: %v", p)
	}
	q, _ := packet.Read(b)
	got, is, e := w.nodes[p.To].Hear(q)
	if e != api.OK && (e != api.ErrAway || p.Ack || is) {
		t.Fatalf("Hear(%v): %t %v", p, is, e)
	}
	if !is {
		return
	}
	pair := [2]int{p.From, p.To}
	if n := len(w.took[pair]); n >= len(w.sent[pair]) || w.sent[pair][n] != string(got) {
		t.Fatalf("took %q as the text %d", got, n+1)
	}
	w.took[pair] = append(w.took[pair], string(got))
}

// crash lets a node's links go there and back, as behind a crash.
func (w *world) crash(t *testing.T, n int) {
	t.Helper()
	w.nodes[n] = read(t, put(w.nodes[n]))
}

// waits is how many texts were not acknowledged, in all.
func (w *world) waits() int {
	n := 0
	for _, l := range w.nodes {
		n += len(l.Packets())
	}
	return n
}

// rest sends again till all is acknowledged, over a net that loses still.
func (w *world) rest(t *testing.T, r *rand.Rand, nodes []int, lost int) {
	t.Helper()
	for round := 0; w.waits() > 0; round++ {
		if round > 1000 {
			t.Fatalf("it does not come to rest")
		}
		for _, n := range nodes {
			w.tell(n)
		}
		for range 2 * len(w.way) {
			w.any(t, r, lost)
		}
	}
}

// TestNet: P17.1 to P17.5, over a net that loses, doubles and mixes each text is taken once, in order, by whom it was sent to; sent again till it is acknowledged, all of it is.
func TestNet(t *testing.T) {
	r := rand.New(rand.NewSource(3))
	nodes := []int{1, 4, 5, 12}
	all := 0
	for range 40 {
		w := newWorld(t, nodes...)
		lost := []int{0, 20, 60}[r.Intn(3)]
		for range r.Intn(400) {
			from := nodes[r.Intn(4)]
			to := nodes[r.Intn(4)]
			switch n := r.Intn(20); {
			case n < 6 && from != to:
				w.send(t, from, to)
			case n < 18:
				w.any(t, r, lost)
			case n < 19:
				w.tell(from)
			default:
				w.crash(t, from)
			}
		}
		w.rest(t, r, nodes, lost)
		for pair, sent := range w.sent {
			if len(w.took[pair]) != len(sent) {
				t.Fatalf("%d of %d texts from %d to %d are taken", len(w.took[pair]), len(sent), pair[0], pair[1])
			}
			all += len(sent)
		}
	}
	if all < 1500 {
		t.Errorf("just %d texts: of little worth", all)
	}
}

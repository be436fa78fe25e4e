package node

import (
	"math/rand"
	"slices"
	"testing"

	"trug/api"
	"trug/cuts"
	"trug/disk"
	"trug/input"
	"trug/msg"
	"trug/op"
	"trug/packet"
	"trug/state"
	"trug/step"
	"trug/tree"
)

// model is a node, by the words of the document: of each input that was written, since it was opened, the state behind it.
type model struct {
	t       *testing.T
	n       int
	size    int
	s       *state.State // to which the same happened
	behind  []string     // behind the first so many of these inputs
	sure    int
	room    int
	waits   []Answer
	stage   int
	next    string // a change's state
	crashes int
	errors  map[api.Errno]int
}

// newModel is of a node to which nothing happened.
func newModel(t *testing.T, n, size int) *model {
	m := &model{t: t, n: n, size: size, errors: map[api.Errno]int{}}
	m.s, _ = state.New(great(), n)
	m.behind, m.room = []string{string(m.s.Save())}, (size-32)/2
	return m
}

// all is how many inputs were written.
func (m *model) all() int { return len(m.behind) - 1 }

// isSure tells whether it is sure.
func (m *model) isSure() bool { return m.sure == m.all() && m.stage == 0 }

// do lets an input happen by the words of the document.
func (m *model) do(y input.Input) (int, step.Reply, api.Errno) {
	b, e := input.Write(y)
	left := m.room - len(b) - 9
	switch {
	case e != api.OK:
		return 0, step.Reply{}, api.ErrForm
	case step.Idle(m.s, y):
		return 0, step.Do(m.s, y), api.OK
	case m.stage > 0:
		return 0, step.Reply{}, api.ErrBusy
	case left < 0 || left < 4000 && y.Kind != 6:
		return 0, step.Reply{}, api.ErrFull
	}
	r := step.Do(m.s, y)
	m.room = left
	m.behind = append(m.behind, string(m.s.Save()))
	if y.Kind != 6 {
		m.waits = append(m.waits, Answer{m.all(), r})
	}
	return m.all(), r, api.OK
}

// compact begins a change by the words of the document.
func (m *model) compact() api.Errno {
	if !m.isSure() {
		return api.ErrBusy
	}
	unclean := m.s.Shard().Unclean()
	m.s.Shard().Clean()
	b := string(m.s.Save())
	frames := len(b) + 9*((len(b)+49999)/50000)
	if frames > (m.size-32)/2 {
		if unclean {
			m.s.Shard().Soil()
		}
		return api.ErrFull
	}
	m.next, m.stage = b, 1
	return api.OK
}

// step is a step of a change by the words of the document.
func (m *model) step() (int, api.Errno) {
	if m.stage == 0 {
		return 0, api.ErrNone
	}
	m.sure = m.all() // it is so anyway
	if m.stage == 4 {
		m.room = (m.size-32)/2 - len(m.next) - 9*((len(m.next)+49999)/50000)
		m.behind[m.all()] = m.next // which tells that it is clean
	}
	m.stage = (m.stage + 1) % 6
	if m.stage == 0 {
		m.next = ""
	}
	return m.stage, api.OK
}

// crashed asks what a node is, opened behind a crash, and lets the model be so.
func (m *model) crashed(d *disk.Disk) *Node {
	m.t.Helper()
	m.crashes++
	x := opened(m.t, m.n, d)
	is := saved(x)
	old := slices.Contains(m.behind[m.sure:], is) // some last inputs may have changed nothing, so there may be two of these
	switch {
	case m.stage == 0 && old, m.stage > 0 && m.stage < 4 && old, m.stage == 4 && (old || is == m.next), m.stage == 5 && is == m.next:
	default:
		m.t.Fatalf("the node %d, of %d inputs sure of %d, stage %d: %x", m.n, m.all(), m.sure, m.stage, is)
	}
	if !x.Sure() || len(x.Answers()) != 0 || x.Number() != m.n {
		m.t.Fatalf("the node %d: something waits", m.n)
	}
	m.s, _ = state.Load(great(), m.n, []byte(is))
	m.behind, m.sure, m.waits, m.stage, m.next, m.room = []string{is}, 0, nil, 0, "", x.Log().Room()
	return x
}

// asks asks all that a node tells.
func (m *model) asks(x *Node) {
	m.t.Helper()
	l := x.Log()
	if saved(x) != string(m.s.Save()) || l.All() != m.all() || l.Sure() != m.sure || l.Room() != m.room || l.Stage() != m.stage {
		m.t.Fatalf("the node %d: %d %d %d %d, not %d %d %d %d", m.n, l.All(), l.Sure(), l.Room(), l.Stage(), m.all(), m.sure, m.room, m.stage)
	}
	if x.Sure() != m.isSure() || x.Unclean() != m.s.Shard().Unclean() {
		m.t.Fatalf("the node %d: sure %v, unclean %v", m.n, x.Sure(), x.Unclean())
	}
	if got, want := x.Packets(), m.packets(); !slices.EqualFunc(got, want, packet.Same) {
		m.t.Fatalf("the node %d: Packets: %v, not %v", m.n, got, want)
	}
}

// packets is what goes into the net by the words of the document.
func (m *model) packets() []packet.Packet {
	if !m.isSure() {
		return nil
	}
	l := m.s.Links()
	var texts, acks []packet.Packet
	for n := 1; n <= 12; n++ {
		for _, x := range l.Queue(n) {
			texts = append(texts, packet.Packet{From: m.n, To: n, Seq: x.Seq, Data: x.Data})
		}
		if p, is := l.Ack(n); is {
			acks = append(acks, p)
		}
	}
	return append(texts, acks...)
}

// answers asks for the replies that may go out.
func (m *model) answers(x *Node) {
	m.t.Helper()
	var want []Answer
	for len(m.waits) > 0 && m.waits[0].Number <= m.sure {
		want, m.waits = append(want, m.waits[0]), m.waits[1:]
	}
	same := func(a, b Answer) bool { return a.Number == b.Number && step.Same(a.Reply, b.Reply) }
	if got := x.Answers(); !slices.EqualFunc(got, want, same) {
		m.t.Fatalf("the node %d: Answers: %v, not %v", m.n, got, want)
	}
}

// anyOf is one of a list.
func anyOf(r *rand.Rand, list ...int) int { return list[r.Intn(len(list))] }

// anyMessage is a message.
func anyMessage(r *rand.Rand) msg.Msg {
	l := of(anyOf(r, 2, 3, 12), anyOf(r, 1, 2, 12), uint32(1+r.Intn(20)))
	l.Time = uint64(1 + r.Intn(99))
	x := op.Event{Label: l, Op: op.Op{Kind: 6, Sku: 1, Price: r.Float64()}}
	switch r.Intn(7) {
	case 0, 1:
		return msg.Of(l)
	case 2:
		return msg.Hand(x)
	case 3:
		return msg.Part(x)
	case 4:
		return msg.End(3, r.Intn(3))
	case 5:
		return msg.Say(anyOf(r, 1, 2, 12), 1+r.Intn(3), []cuts.Stance{{Has: true, Time: uint64(1 + r.Intn(99)), Cut: api.Vector{0, uint32(r.Intn(4))}}, {}}[r.Intn(2)])
	}
	return msg.Ask(anyOf(r, 4, 4, 6, 7, 8, 8, 9), anyOf(r, 3, 3, 4))
}

// anyPacket is a packet for a state; most are the next ones.
func anyPacket(r *rand.Rand, s *state.State) packet.Packet {
	p := packet.Packet{From: anyOf(r, append(tree.Next(great(), s.Node()), 1, 2, 3, 6, 12)...), To: s.Node(), Seq: 1}
	if r.Intn(3) == 0 {
		p.Ack = true
		if q := s.Links().Queue(p.From); len(q) > 0 {
			p.Seq = q[0].Seq + uint64(r.Intn(8))
		}
		return p
	}
	if a, is := s.Links().Ack(p.From); is {
		p.Seq = a.Seq + 1
	}
	if r.Intn(6) == 0 {
		p.Seq += uint64(r.Intn(3)) - 1
	}
	p.Data, _ = msg.Write(anyMessage(r))
	return p
}

// anyInput is an input for a state; one of many may not be.
func anyInput(r *rand.Rand, s *state.State) input.Input {
	seller := anyOf(r, 3, 3, 4, r.Intn(14))
	switch r.Intn(14) {
	case 0:
		return foundOf(seller)
	case 1:
		return joinOf(seller, anyOf(r, 2, 3, 12))
	case 2:
		return leaveOf(seller)
	case 3, 4:
		return checkoutOf(anyOf(r, 1, 2, 12))
	case 5, 6, 7:
		return orderOf(anyOf(r, 1, 2, 12), seller, add)
	}
	return packetOf(anyPacket(r, s))
}

// something happens to a node: what is the node then.
func (m *model) something(r *rand.Rand, d *disk.Disk, x *Node, crash bool) *Node {
	m.t.Helper()
	switch k := r.Intn(40); {
	case k < 26:
		y := anyInput(r, m.s)
		n, a, e := x.Do(y)
		if o, b, f := m.do(y); n != o || !step.Same(a, b) || e != f {
			m.t.Fatalf("the node %d, %v: %d %v %v, not %d %v %v", m.n, y, n, a, e, o, b, f)
		}
		m.errors[e]++
	case k < 29:
		if e := x.Sync(); e != api.OK {
			m.t.Fatalf("Sync: %v", e)
		}
		m.sure = m.all()
	case k < 31:
		m.answers(x)
	case k < 33:
		if e, f := x.Compact(), m.compact(); e != f {
			m.t.Fatalf("the node %d: Compact: %v, not %v", m.n, e, f)
		}
	case k < 39:
		n, e := x.Step()
		if o, f := m.step(); n != o || e != f {
			m.t.Fatalf("the node %d: Step: %d %v, not %d %v", m.n, n, e, o, f)
		}
	case crash:
		d.Crash(r.Intn(d.Waits()+2) - 1)
		x = m.crashed(d)
	}
	return x
}

// TestAny: P29.1 to P29.5, whatever happens to a node, and wherever it crashes: it tells what the document says.
func TestAny(t *testing.T) {
	r := rand.New(rand.NewSource(1))
	crashes, errors := 0, map[api.Errno]int{}
	for run := range 160 {
		n, size := nodes()[run%8], []int{262144, 20000, 13000, 10400}[r.Intn(4)]
		d, x := formatted(t, n, size)
		m := newModel(t, n, size)
		for range 400 {
			x = m.something(r, d, x, true)
			m.asks(x)
		}
		crashes += m.crashes
		for e, k := range m.errors {
			errors[e] += k
		}
	}
	if crashes < 1000 || errors[api.OK] < 10000 || errors[api.ErrBusy] < 300 || errors[api.ErrFull] < 300 || errors[api.ErrForm] < 300 {
		t.Errorf("%d crashes, %v: of little worth", crashes, errors)
	}
}

// TestEveryByte: P29.5, of what waits just those inputs are there whose whole records lasted.
func TestEveryByte(t *testing.T) {
	list := []input.Input{foundOf(3), text(3, 2, 1, msg.Ask(4, 3)), orderOf(1, 3, add), leaveOf(9), ack(3, 2, 1), orderOf(1, 3, priced), foundOf(4)}
	for sure := range len(list) + 1 {
		for last := 0; ; last++ {
			d, x := formatted(t, 2, 12000)
			kept, ends := sure, 0
			for i, y := range list {
				if _, _, e := x.Do(y); e != api.OK {
					t.Fatalf("Do of %v: %v", y, e)
				}
				if i < sure {
					syncs(t, x)
				} else if ends += frame(t, y); ends <= last {
					kept = i + 1
				}
			}
			d.Crash(last)
			if y := opened(t, 2, d); saved(y) != before(t, 2, list[:kept]...) {
				t.Fatalf("sure of %d, %d bytes: not as behind %d", sure, last, kept)
			}
			if last > ends {
				break
			}
		}
	}
}

// TestEveryCrash: P29.5, at each place of what happens to a node, of whose last writes any number of bytes lasts: it is as behind some of the last inputs, or behind the change.
func TestEveryCrash(t *testing.T) {
	for seed := range int64(24) {
		play := func(n int) (*disk.Disk, *model) {
			r := rand.New(rand.NewSource(seed))
			node, size := nodes()[seed%8], 9000+r.Intn(5000)
			d, x := formatted(t, node, size)
			m := newModel(t, node, size)
			for range n {
				x = m.something(r, d, x, false)
			}
			return d, m
		}
		for n := 0; n < 60; n += 1 + int(seed%3) {
			d, m := play(n)
			waits := d.Waits()
			d.Crash(0)
			m.crashed(d)
			for last := 1; last <= waits; last += 1 + waits/12 {
				d, m := play(n)
				d.Crash(last)
				m.crashed(d)
				d.Crash(last) // what waits since it was opened is noughts
				m.crashed(d)
			}
		}
	}
}

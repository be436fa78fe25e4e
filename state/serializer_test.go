package state

import (
	"math/rand"
	"slices"
	"testing"

	"trug/api"
	"trug/cuts"
	"trug/label"
	"trug/link"
	"trug/msg"
	"trug/op"
	"trug/tree"
	"trug/wire"
)

// text is one that was not acknowledged.
type text struct {
	seq  uint64
	data string
}

// model is the serializer 5 of the great tree, by the words of the document.
type model struct {
	came, went [13]uint64
	next       [13]uint64
	queue      [13][]text
}

// newModel is one to which nothing happened.
func newModel() *model {
	m := &model{}
	for n := range m.next {
		m.next[n] = 1
	}
	return m
}

// goes is where a label of a cart goes from the serializer 5 on: at 4 lies the home 1, at 9 the home 6; both are each cart's.
func goes(from int) []int {
	return map[int][]int{3: {4, 9}, 4: {9}, 9: {4}}[from]
}

// isOpen tells whether a text may be sent to a node.
func (m *model) isOpen(to int) bool { return len(m.queue[to]) < 250 && m.next[to] <= 1<<40 }

// may is May by the words of the document.
func (m *model) may(from int, x msg.Msg) api.Errno {
	switch {
	case !msg.Right(x):
		return api.ErrForm
	case from != 3 && from != 4 && from != 9:
		return api.ErrNode
	}
	for _, n := range goes(from) {
		if x.Kind == 1 && !m.isOpen(n) {
			return api.ErrBusy
		}
	}
	return api.OK
}

// hear is Hear by the words of the document.
func (m *model) hear(from int, x msg.Msg) api.Errno {
	e := m.may(from, x)
	if e != api.OK || x.Kind != 1 {
		return e
	}
	m.came[from]++
	for _, n := range goes(from) {
		m.went[n]++
		b, _ := msg.Write(x)
		m.send(n, string(b))
	}
	return api.OK
}

// send sends a text.
func (m *model) send(to int, data string) {
	m.queue[to] = append(m.queue[to], text{m.next[to], data})
	m.next[to]++
}

// acked lets texts up to one be acknowledged.
func (m *model) acked(to int, seq uint64) {
	m.queue[to] = slices.DeleteFunc(m.queue[to], func(x text) bool { return x.seq <= seq })
}

// raw is the bytes that the document gives that state: of the neighbours 3, 4 and 9 both counts, and the links, of which nothing was taken.
func (m *model) raw() string {
	w := wire.New()
	for _, n := range []int{3, 4, 9} {
		w.Num(m.came[n]).Num(m.went[n])
	}
	var to []int
	for n, next := range m.next {
		if next > 1 {
			to = append(to, n)
		}
	}
	w.Num(5).Num(uint64(len(to)))
	for _, n := range to {
		w.Num(uint64(n)).Num(m.next[n]).Num(uint64(len(m.queue[n])))
		for _, x := range m.queue[n] {
			w.Text([]byte(x.data))
		}
		w.Num(1)
	}
	return string(w.Bytes())
}

// both is a serializer's state, and its model.
type both struct {
	t *testing.T
	s *State
	m *model
}

// begin is the serializer 5 of the great tree, to which nothing happened.
func begin(t *testing.T) *both {
	t.Helper()
	return &both{t, made(t, great(), 5), newModel()}
}

// hear asks both, and whether that is what is wanted.
func (b *both) hear(from int, x msg.Msg, want ...api.Errno) {
	b.t.Helper()
	e, f := b.s.May(from, x), b.m.may(from, x)
	if e != f || len(want) > 0 && e != want[0] {
		b.t.Fatalf("May from %d of %v: %v, not %v, not %v", from, x, e, f, want)
	}
	before := string(b.s.Save())
	if g, h := b.s.Hear(from, x), b.m.hear(from, x); g != e || h != e {
		b.t.Fatalf("Hear from %d of %v: %v, not %v", from, x, g, e)
	}
	if e != api.OK && string(b.s.Save()) != before {
		b.t.Fatalf("from %d, %v is refused, but it changed", from, x)
	}
}

// acked lets texts up to one be acknowledged.
func (b *both) acked(to int, seq uint64) {
	b.s.Links().Acked(to, seq)
	b.m.acked(to, seq)
}

// send sends texts that are no messages, so many.
func (b *both) send(to, count int) {
	b.t.Helper()
	for range count {
		if _, e := b.s.Links().Send(to, []byte("x")); e != api.OK {
			b.t.Fatalf("Send to %d: %v", to, e)
		}
		b.m.send(to, "x")
	}
}

// has asks all that the state tells.
func (b *both) has() {
	b.t.Helper()
	same := func(a link.Item, c text) bool { return a.Seq == c.seq && string(a.Data) == c.data }
	for n := 1; n <= 12; n++ {
		if came, went := b.s.Relay().Count(n); came != b.m.came[n] || went != b.m.went[n] {
			b.t.Fatalf("Count(%d): %d %d, not %d %d", n, came, went, b.m.came[n], b.m.went[n])
		}
		if got := b.s.Links().Queue(n); !slices.EqualFunc(got, b.m.queue[n], same) {
			b.t.Fatalf("to %d: %v, not %v", n, got, b.m.queue[n])
		}
	}
	if got := string(b.s.Save()); got != b.m.raw() {
		b.t.Fatalf("Save: %x, not %x", got, b.m.raw())
	}
}

// load lets the state be that of the model's bytes.
func (b *both) load() {
	b.t.Helper()
	s, e := Load(great(), 5, []byte(b.m.raw()))
	if s == nil || e != api.OK {
		b.t.Fatalf("%x is not read: %v", b.m.raw(), e)
	}
	b.s = s
	b.has()
}

// TestLabel: P27.2, the document's example: a label of a shard, the home is told it.
func TestLabel(t *testing.T) {
	s := made(t, small(), 3)
	if e := s.May(2, msg.Of(of(2, 1, 1))); e != api.OK || len(s.Links().Peers()) != 0 {
		t.Fatalf("May: %v", e)
	}
	if e := s.Hear(2, msg.Of(of(2, 1, 1))); e != api.OK {
		t.Fatalf("Hear: %v", e)
	}
	q := s.Links().Queue(1)
	if len(q) != 1 || q[0].Seq != 1 || !slices.Equal(s.Links().Peers(), []int{1}) {
		t.Fatalf("Queue: %v", q)
	}
	if m, e := msg.Read(q[0].Data); e != api.OK || !msg.Same(m, msg.Of(of(2, 1, 1))) {
		t.Errorf("told: %v %v", m, e)
	}
	if came, _ := s.Relay().Count(2); came != 1 {
		t.Errorf("came: %d", came)
	}
	if _, went := s.Relay().Count(1); went != 1 {
		t.Errorf("went: %d", went)
	}
	if e := s.Hear(1, msg.Of(of(2, 2, 1))); e != api.OK || len(s.Links().Queue(1)) != 1 || len(s.Links().Queue(2)) != 0 {
		t.Errorf("from the home: %v", e) // it goes to nobody
	}
}

// TestLabels: P27.2, labels from each neighbour go to all who want them, but back.
func TestLabels(t *testing.T) {
	b := begin(t)
	b.hear(3, msg.Of(of(3, 1, 1)), api.OK)
	b.has()
	b.hear(4, msg.Of(of(2, 12, 1)), api.OK)
	b.hear(9, msg.Of(of(12, 3, 1)), api.OK)
	b.hear(3, msg.Of(label.Label{Time: 1, Node: 3, N: 1, Cart: 5}), api.OK) // of a checkout
	b.hear(9, msg.Of(of(7, 3, 1)), api.OK)                                  // whosever it is
	b.has()
	if n := len(b.s.Links().Queue(4)); n != 4 {
		t.Errorf("to 4: %d", n)
	}
}

// TestPruned: P27.2, labels go to no node beyond which there is no home of the cart.
func TestPruned(t *testing.T) {
	x := tree.Tree{Kinds: [12]int{1, 1, 1, 3, 2}, Edges: []tree.Edge{{A: 1, B: 4}, {A: 2, B: 4}, {A: 3, B: 4}, {A: 5, B: 4}}}
	for cart, want := range map[int][]int{1: {2, 3}, 2: {1, 3}, 3: {1, 2}, 10: {2, 3}} {
		s := made(t, x, 4)
		if e := s.Hear(5, msg.Of(of(5, cart, 1))); e != api.OK || !slices.Equal(s.Links().Peers(), want) {
			t.Errorf("the cart %d: %v %v", cart, s.Links().Peers(), e)
		}
	}
	s := made(t, x, 4)
	for range 250 {
		s.Links().Send(1, []byte("x"))
	}
	if e := s.Hear(5, msg.Of(of(5, 1, 1))); e != api.OK { // it does not go to 1
		t.Errorf("Hear: %v", e)
	}
	if e := s.Hear(5, msg.Of(of(5, 2, 1))); e != api.ErrBusy {
		t.Errorf("Hear: %v", e)
	}
}

// TestHearErrors: P27.2, of several errors the first one, and nothing has changed.
func TestHearErrors(t *testing.T) {
	b := begin(t)
	b.send(4, 250)
	b.send(9, 250)
	for _, from := range numbers() {
		for _, m := range wrong() {
			b.hear(from, m, api.ErrForm)
		}
		for _, m := range messages() {
			switch {
			case from != 3 && from != 4 && from != 9:
				b.hear(from, m, api.ErrNode)
			case m.Kind == 1:
				b.hear(from, m, api.ErrBusy)
			default:
				b.hear(from, m, api.OK)
			}
		}
	}
	b.has()
	s := made(t, alone(), 2)
	for _, from := range numbers() { // without neighbours
		if e := s.Hear(from, msg.Of(of(3, 1, 1))); e != api.ErrNode {
			t.Errorf("Hear from %d: %v", from, e)
		}
	}
}

// TestBusy: P27.2, a label is refused, if one of those to whom it goes has no room; then nobody is told.
func TestBusy(t *testing.T) {
	b := begin(t)
	b.send(9, 249)
	b.hear(3, msg.Of(of(3, 1, 1)), api.OK)
	b.hear(3, msg.Of(of(3, 1, 2)), api.ErrBusy)
	b.hear(4, msg.Of(of(2, 1, 1)), api.ErrBusy)
	b.hear(9, msg.Of(of(12, 1, 1)), api.OK) // it goes to 4 alone
	b.has()
	b.acked(9, 1)
	b.hear(3, msg.Of(of(3, 1, 2)), api.OK)
	b.hear(3, msg.Of(of(3, 1, 3)), api.ErrBusy)
	b.acked(9, 250)
	b.send(4, 247)
	b.hear(3, msg.Of(of(3, 1, 3)), api.ErrBusy)
	b.hear(4, msg.Of(of(2, 1, 1)), api.OK)
	b.has()
}

// TestLastNumber: P27.2, a label is refused, if there is no number for its text any more.
func TestLastNumber(t *testing.T) {
	b := begin(t)
	b.m.next[4] = api.MaxTime
	b.load()
	b.hear(3, msg.Of(of(3, 1, 1)), api.OK)
	b.hear(3, msg.Of(of(3, 1, 2)), api.ErrBusy)
	b.hear(4, msg.Of(of(2, 1, 1)), api.OK)
	b.acked(4, api.MaxTime)
	b.hear(3, msg.Of(of(3, 1, 2)), api.ErrBusy)
	b.has()
}

// TestOthers: P27.2, what is no label is heard from each neighbour, and nothing comes of it.
func TestOthers(t *testing.T) {
	b := begin(t)
	b.hear(3, msg.Of(of(3, 1, 1)), api.OK)
	before := string(b.s.Save())
	for _, from := range []int{3, 4, 9} {
		for _, m := range messages()[1:] {
			b.hear(from, m, api.OK)
		}
	}
	if string(b.s.Save()) != before {
		t.Errorf("it changed")
	}
	b.has()
}

// TestOwnMemory: the rule 5, the tree and the message are not kept, and what is told is new.
func TestOwnMemory(t *testing.T) {
	x := great()
	s := made(t, x, 5)
	for i := range x.Edges {
		x.Edges[i] = tree.Edge{A: 1, B: 2}
	}
	if e := s.Hear(3, msg.Of(of(3, 1, 1))); e != api.OK || !slices.Equal(s.Links().Peers(), []int{4, 9}) {
		t.Errorf("Hear: %v %v", e, s.Links().Peers())
	}
	b := s.Save()
	kept := slices.Clone(b)
	x = great()
	u, e := Load(x, 5, b)
	for i := range x.Edges {
		x.Edges[i] = tree.Edge{A: 1, B: 2}
	}
	for i := range b {
		b[i] = 0xFF
	}
	_ = append(b, 7)
	if e != api.OK || string(u.Save()) != string(kept) || string(s.Save()) != string(kept) {
		t.Fatalf("Load: %v", e)
	}
	if e := u.Hear(3, msg.Of(of(3, 1, 2))); e != api.OK || len(u.Links().Queue(9)) != 2 || len(s.Links().Queue(9)) != 1 {
		t.Errorf("Hear: %v %v", e, u.Links().Queue(9))
	}
}

// anyMessage is a message, of which most may be, and most are labels.
func anyMessage(r *rand.Rand) msg.Msg {
	l := of(1+r.Intn(12), 1+r.Intn(12), uint32(1+r.Intn(500)))
	l.Seller = r.Intn(14)
	switch r.Intn(12) {
	case 0:
		return msg.Hand(op.Event{Label: l, Op: op.Op{Kind: 4}})
	case 1:
		return msg.Ask(r.Intn(12), r.Intn(14))
	case 2:
		return msg.Say(r.Intn(14), r.Intn(22), cuts.Stance{})
	}
	return msg.Of(l)
}

// TestAny: P27.2 and P27.3, whatever a serializer is told: what stands there is what the document says, and goes there and back.
func TestAny(t *testing.T) {
	r := rand.New(rand.NewSource(1))
	busy := 0
	for range 60 {
		b := begin(t)
		for range 1500 {
			b.hear([]int{3, 4, 9, 3, 4, 9, r.Intn(14)}[r.Intn(7)], anyMessage(r))
			if to := []int{4, 9}[r.Intn(2)]; r.Intn(60) == 0 && len(b.m.queue[to]) > 0 {
				b.acked(to, b.m.queue[to][r.Intn(len(b.m.queue[to]))].seq)
			}
			if !b.m.isOpen(4) || !b.m.isOpen(9) {
				busy++
			}
			switch r.Intn(100) {
			case 0:
				b.has()
			case 1:
				b.load()
			case 2:
				b.send(4, min(r.Intn(100), 250-len(b.m.queue[4])))
			}
		}
		b.has()
	}
	if busy < 1000 {
		t.Errorf("%d: of little worth", busy)
	}
}

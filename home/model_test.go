package home

import (
	"math"
	"slices"
	"testing"

	"trug/api"
	"trug/clock"
	"trug/cuts"
	"trug/index"
	"trug/label"
	"trug/link"
	"trug/msg"
	"trug/tree"
	"trug/wire"
)

// great is a tree of three homes: 1, 6 and 10; the shards 2 and 7; the serializers 4, 5 and 9; at 3, 8, 11 and 12 nobody.
func great() tree.Tree {
	return tree.Tree{Kinds: [12]int{1, 2, 0, 3, 3, 1, 2, 0, 3, 1}, Edges: []tree.Edge{
		{A: 1, B: 4}, {A: 2, B: 4}, {A: 4, B: 5}, {A: 6, B: 5}, {A: 7, B: 5}, {A: 5, B: 9}, {A: 10, B: 9},
	}}
}

// pair is a tree of two homes, 2 and 12, each cart's.
func pair() tree.Tree {
	return tree.Tree{Kinds: [12]int{3, 1, 2, 11: 1}, Edges: []tree.Edge{{A: 1, B: 2}, {A: 1, B: 3}, {A: 1, B: 12}}}
}

// alone is a tree of one home, 3.
func alone() tree.Tree {
	return tree.Tree{Kinds: [12]int{2, 3, 1}, Edges: []tree.Edge{{A: 1, B: 2}, {A: 2, B: 3}}}
}

// text is one that was not acknowledged.
type text struct {
	seq  uint64
	data []byte
}

// ofCart is what a home has of a cart by the words of the document.
type ofCart struct {
	other      int
	vector     api.Vector
	entries    []index.Entry
	waits      []label.Label
	cuts       []cuts.Cut
	own, heard *cuts.Stance
}

// model is a home by the words of the document. Carts and nodes are counted from 1 on.
type model struct {
	node   int
	own    int // whose links they are; the node's, if it is right
	time   uint64
	carts  map[int]*ofCart
	next   [13]uint64
	queue  [13][]text
	expect [13]uint64
}

// newModel is a model of a home, whose carts have these other homes.
func newModel(node int, others map[int]int) *model {
	m := &model{node: node, own: node, carts: map[int]*ofCart{}}
	for n := range m.next {
		m.next[n], m.expect[n] = 1, 1
	}
	for cart, other := range others {
		m.carts[cart] = &ofCart{other: other}
	}
	return m
}

// othersOf is the other homes of a home's carts, counted by hand.
func othersOf(node int) map[int]int {
	return map[int]map[int]int{
		1:  {2: 10, 3: 6, 5: 10, 6: 6, 8: 10, 9: 6, 11: 10, 12: 6}, // of great
		6:  {1: 10, 3: 1, 4: 10, 6: 1, 7: 10, 9: 1, 10: 10, 12: 1},
		10: {1: 6, 2: 1, 4: 6, 5: 1, 7: 6, 8: 1, 10: 6, 11: 1},
		2:  {1: 12, 2: 12, 3: 12, 4: 12, 5: 12, 6: 12, 7: 12, 8: 12, 9: 12, 10: 12, 11: 12, 12: 12}, // of pair
		12: {1: 2, 2: 2, 3: 2, 4: 2, 5: 2, 6: 2, 7: 2, 8: 2, 9: 2, 10: 2, 11: 2, 12: 2},
		3:  {1: 0, 2: 0, 3: 0, 4: 0, 5: 0, 6: 0, 7: 0, 8: 0, 9: 0, 10: 0, 11: 0, 12: 0}, // of alone
	}[node]
}

// isTree is the tree of a home.
func isTree(node int) tree.Tree {
	switch node {
	case 1, 6, 10:
		return great()
	case 2, 12:
		return pair()
	}
	return alone()
}

// covers tells whether a covers b.
func covers(a, b api.Vector) bool {
	for i := range a {
		if a[i] < b[i] {
			return false
		}
	}
	return true
}

// last is the last cut's vector.
func (c *ofCart) last() api.Vector {
	if len(c.cuts) == 0 {
		return api.Vector{}
	}
	return c.cuts[len(c.cuts)-1].Vector
}

// has tells whether a label is there, whether it came in, or waits.
func (c *ofCart) has(l label.Label) bool {
	for _, x := range c.waits {
		if x.Node == l.Node && x.N == l.N {
			return true
		}
	}
	return slices.ContainsFunc(c.entries, func(x index.Entry) bool { return x.Dot == label.Dot(l) })
}

// add lets a label come.
func (c *ofCart) add(l label.Label) {
	c.waits = append(c.waits, l)
	for {
		slices.SortFunc(c.waits, func(a, b label.Label) int {
			if label.Less(a, b) {
				return -1
			}
			return 1
		})
		i := slices.IndexFunc(c.waits, func(l label.Label) bool { return covers(c.vector, l.Deps) })
		if i < 0 {
			return
		}
		l := c.waits[i]
		c.waits = slices.Delete(c.waits, i, i+1)
		c.entries = append(c.entries, index.Entry{Dot: label.Dot(l), Seller: l.Seller})
		c.vector[l.Node-1] = l.N
	}
}

// decide decides a round, if it may be.
func (c *ofCart) decide(node int) {
	var best *cuts.Cut
	try := func(home int, s *cuts.Stance) {
		if s == nil || !s.Has {
			return
		}
		if best == nil || s.Time < best.Time || s.Time == best.Time && home < best.Home {
			best = &cuts.Cut{Home: home, Time: s.Time, Vector: s.Cut}
		}
	}
	if c.own == nil || c.other != 0 && c.heard == nil {
		return
	}
	try(node, c.own)
	try(c.other, c.heard)
	if best != nil {
		c.cuts = append(c.cuts, *best)
		c.own, c.heard = nil, nil
	}
}

// room tells whether a text may be sent to a node.
func (m *model) room(to int) bool { return len(m.queue[to]) < 250 && m.next[to] <= api.MaxTime }

// tell sends a message to a node.
func (m *model) tell(to int, x msg.Msg) {
	b, _ := msg.Write(x)
	m.queue[to] = append(m.queue[to], text{m.next[to], b})
	m.next[to]++
}

// acked lets texts up to one be acknowledged.
func (m *model) acked(to int, seq uint64) {
	m.queue[to] = slices.DeleteFunc(slices.Clone(m.queue[to]), func(x text) bool { return x.seq <= seq })
}

// checkout is Checkout by the words of the document.
func (m *model) checkout(cart int, seen api.Vector, time uint64) (int, api.Errno) {
	c := m.carts[cart]
	if c == nil {
		return 0, api.ErrCart
	}
	at := max(m.time, time) + 1
	switch {
	case !covers(c.vector, seen):
		return 0, api.ErrAway
	case c.other != 0 && !m.room(c.other):
		return 0, api.ErrBusy
	case time > api.MaxTime || at > api.MaxTime:
		return 0, api.ErrArg
	case c.own != nil:
		return 0, api.ErrBusy
	case len(c.cuts) >= 20:
		return 0, api.ErrFull
	case !covers(c.vector, c.last()):
		return 0, api.ErrAway
	case c.vector == c.last():
		return 0, api.ErrNone
	}
	round := len(c.cuts) + 1
	s := cuts.Stance{Has: true, Time: at, Cut: c.vector}
	m.time, c.own = at, &s
	if c.other != 0 {
		m.tell(c.other, msg.Say(cart, round, s))
	}
	c.decide(m.node)
	return round, api.OK
}

// isStance tells whether a stance is heard, and whether it makes a home promise.
func (m *model) isStance(from int, x msg.Msg) (hears, promises bool) {
	c := m.carts[x.Cart]
	if x.Kind != 10 || c == nil || c.other == 0 || from != c.other {
		return false, false
	}
	hears = x.Round == len(c.cuts)+1 && c.heard == nil && len(c.cuts) < 20
	return hears, hears && x.Stance.Has && c.own == nil
}

// may is May by the words of the document.
func (m *model) may(from int, x msg.Msg) api.Errno {
	if !msg.Right(x) {
		return api.ErrForm
	}
	if _, promises := m.isStance(from, x); promises && !m.room(from) {
		return api.ErrBusy
	}
	c := m.carts[x.Label.Cart]
	if x.Kind == 1 && x.Label.Seller != 0 && c != nil && !c.has(x.Label) && len(c.entries)+len(c.waits) >= 400 {
		return api.ErrFull
	}
	return api.OK
}

// hear is Hear by the words of the document.
func (m *model) hear(from int, x msg.Msg) api.Errno {
	if e := m.may(from, x); e != api.OK {
		return e
	}
	hears, promises := m.isStance(from, x)
	switch c := m.carts[x.Label.Cart+x.Cart]; { // there is one of both at most
	case c == nil:
	case x.Kind == 1:
		if !c.has(x.Label) && x.Label.Seller != 0 {
			c.add(x.Label)
		}
		m.time = max(m.time, x.Label.Time)
	case x.Kind == 10 && c.other != 0 && from == c.other:
		m.time = max(m.time, x.Stance.Time)
		if hears {
			c.heard = &x.Stance
		}
		if promises {
			c.own = &cuts.Stance{}
			m.tell(from, msg.Say(x.Cart, x.Round, cuts.Stance{}))
		}
		c.decide(m.node)
	}
	return api.OK
}

// view is View by the words of the document.
func (m *model) view(cart int, seen api.Vector, rounds int) (View, api.Errno) {
	c := m.carts[cart]
	switch {
	case c == nil:
		return View{}, api.ErrCart
	case !covers(c.vector, seen) || len(c.cuts) < rounds || !covers(c.vector, c.last()):
		return View{}, api.ErrAway
	}
	return View{Vector: c.vector, From: c.last(), Cuts: c.cuts}, api.OK
}

// parts is Parts by the words of the document.
func (m *model) parts(cart int, from, to api.Vector) []Part {
	c := m.carts[cart]
	if c == nil {
		return nil
	}
	var out []Part
	for seller := 1; seller <= 12; seller++ {
		p := Part{Seller: seller}
		for node := 1; node <= 12; node++ {
			for n := from[node-1] + 1; n > 0 && n <= to[node-1] && n <= 400; n++ {
				d := clock.Dot{Node: node, N: n}
				if slices.Contains(c.entries, index.Entry{Dot: d, Seller: seller}) {
					p.Dots = append(p.Dots, d)
				}
			}
		}
		if len(p.Dots) > 0 {
			out = append(out, p)
		}
	}
	return out
}

// rawIndex is the bytes that the document gives a cart's index.
func (c *ofCart) rawIndex(cart int) []byte {
	w := wire.New().Num(uint64(cart)).Num(uint64(len(c.entries)))
	for _, x := range c.entries {
		w.Num(uint64(x.Dot.Node)).Num(uint64(x.Dot.N)).Num(uint64(x.Seller))
	}
	w.Num(uint64(len(c.waits)))
	for _, l := range c.waits {
		label.Put(w, l)
	}
	return w.Bytes()
}

// rawCuts is the bytes that the document gives a cart's table.
func (c *ofCart) rawCuts(own int) []byte {
	w := wire.New().Num(uint64(own)).Num(uint64(c.other)).Num(uint64(len(c.cuts)))
	for _, x := range c.cuts {
		w.Num(uint64(x.Home)).Num(x.Time).Vector(x.Vector)
	}
	for _, s := range []*cuts.Stance{c.own, c.heard} {
		switch {
		case s == nil:
			w.Num(0)
		case !s.Has:
			w.Num(1)
		default:
			w.Num(2).Num(s.Time).Vector(s.Cut)
		}
	}
	return w.Bytes()
}

// raw is the bytes that the document gives a home.
func (m *model) raw() []byte {
	w := wire.New().Num(m.time)
	m.rawLinks(w)
	for cart := 1; cart <= 12; cart++ {
		if c := m.carts[cart]; c != nil {
			w.Text(c.rawIndex(cart)).Text(c.rawCuts(m.node))
		}
	}
	return w.Bytes()
}

// rawLinks writes the bytes that the document gives links.
func (m *model) rawLinks(w *wire.Writer) {
	var to []int
	for n := 1; n <= 12; n++ {
		if m.next[n] > 1 || m.expect[n] > 1 {
			to = append(to, n)
		}
	}
	w.Num(uint64(m.own)).Num(uint64(len(to)))
	for _, n := range to {
		w.Num(uint64(n)).Num(m.next[n]).Num(uint64(len(m.queue[n])))
		for _, x := range m.queue[n] {
			w.Text(x.data)
		}
		w.Num(m.expect[n])
	}
}

// numbers is the carts' and nodes' numbers, and such as are none's.
func numbers() []int {
	list := []int{0, -1, 13, 14, 24, 25, math.MinInt, math.MaxInt, 1 << 32, 1<<32 + 1, 1<<32 + 12, -12}
	for n := 1; n <= 12; n++ {
		list = append(list, n)
	}
	return list
}

// put is the bytes of a home.
func put(h *Home) []byte {
	w := wire.New()
	h.Put(w)
	return w.Bytes()
}

// has asks all that a home tells, and its bytes.
func has(t *testing.T, h *Home, m *model) {
	t.Helper()
	if h.Time() != m.time || h.Links().Own() != m.node {
		t.Fatalf("Time %d, not %d", h.Time(), m.time)
	}
	for n := 1; n <= 12; n++ {
		hasCart(t, h, n, m.carts[n])
		same := func(a link.Item, b text) bool { return a.Seq == b.seq && string(a.Data) == string(b.data) }
		if !slices.EqualFunc(h.Links().Queue(n), m.queue[n], same) {
			t.Fatalf("Queue(%d): %v, not %v", n, h.Links().Queue(n), m.queue[n])
		}
	}
	if b := put(h); string(b) != string(m.raw()) {
		t.Fatalf("Put: %x, not %x", b, m.raw())
	}
}

// hasCart asks what a home has of a cart.
func hasCart(t *testing.T, h *Home, cart int, c *ofCart) {
	t.Helper()
	x, u := h.Index(cart), h.Cuts(cart)
	if c == nil {
		if x != nil || u != nil {
			t.Fatalf("it is not the home of the cart %d, but has %v %v", cart, x, u)
		}
		return
	}
	if x.Cart() != cart || x.Vector() != c.vector || !slices.Equal(x.Entries(), c.entries) || !slices.Equal(x.Waits(), c.waits) {
		t.Fatalf("Index(%d): %v %v", cart, x, c)
	}
	own, is := u.Own()
	if u.Home() != h.Links().Own() || u.Other() != c.other || !slices.Equal(u.Cuts(), c.cuts) || is != (c.own != nil) || is && own != *c.own {
		t.Fatalf("Cuts(%d): %v %v", cart, u, c)
	}
}

// start is a home to which nothing happened, and its model.
func start(t *testing.T, node int) (*Home, *model) {
	t.Helper()
	h, e := New(isTree(node), node)
	if h == nil || e != api.OK {
		t.Fatalf("New: %v %v", h, e)
	}
	m := newModel(node, othersOf(node))
	has(t, h, m)
	return h, m
}

// both is a home, and its model: what one is asked, the other one is asked, too.
type both struct {
	t *testing.T
	h *Home
	m *model
}

// begin is a home to which nothing happened.
func begin(t *testing.T, node int) *both {
	t.Helper()
	h, m := start(t, node)
	return &both{t, h, m}
}

// same asks whether home and model tell the same, and whether that is what is wanted.
func (b *both) same(what string, got, model api.Errno, want ...api.Errno) {
	b.t.Helper()
	if got != model || len(want) > 0 && got != want[0] {
		b.t.Fatalf("%s: %v, not %v, not %v", what, got, model, want)
	}
}

// checkout, hear, view and parts are these calls.
func (b *both) checkout(cart int, seen api.Vector, time uint64, want ...api.Errno) int {
	b.t.Helper()
	n, e := b.h.Checkout(cart, seen, time)
	k, f := b.m.checkout(cart, seen, time)
	b.same("Checkout", e, f, want...)
	if n != k {
		b.t.Fatalf("Checkout: the round %d, not %d", n, k)
	}
	return n
}

func (b *both) hear(from int, x msg.Msg, want ...api.Errno) {
	b.t.Helper()
	b.same("May", b.h.May(from, x), b.m.may(from, x), want...)
	b.same("Hear", b.h.Hear(from, x), b.m.hear(from, x), want...)
}

func (b *both) view(cart int, seen api.Vector, rounds int, want ...api.Errno) View {
	b.t.Helper()
	v, e := b.h.View(cart, seen, rounds)
	w, f := b.m.view(cart, seen, rounds)
	b.same("View", e, f, want...)
	if v.Vector != w.Vector || v.From != w.From || !slices.Equal(v.Cuts, w.Cuts) {
		b.t.Fatalf("View: %v, not %v", v, w)
	}
	return v
}

func (b *both) parts(cart int, from, to api.Vector) []Part {
	b.t.Helper()
	got, want := b.h.Parts(cart, from, to), b.m.parts(cart, from, to)
	same := func(a, b Part) bool { return a.Seller == b.Seller && slices.Equal(a.Dots, b.Dots) }
	if !slices.EqualFunc(got, want, same) {
		b.t.Fatalf("Parts(%d): %v, not %v", cart, got, want)
	}
	return got
}

// acked lets texts up to one be acknowledged.
func (b *both) acked(to int, seq uint64) {
	b.h.Links().Acked(to, seq)
	b.m.acked(to, seq)
}

// send sends texts that are no messages, so many.
func (b *both) send(to, count int) {
	b.t.Helper()
	for range count {
		if _, e := b.h.Links().Send(to, []byte{0}); e != api.OK {
			b.t.Fatalf("Send to %d: %v", to, e)
		}
		b.m.queue[to] = append(b.m.queue[to], text{b.m.next[to], []byte{0}})
		b.m.next[to]++
	}
}

// has asks all that the home tells.
func (b *both) has() {
	b.t.Helper()
	has(b.t, b.h, b.m)
}

// again lets the home be written, and read by another one, that goes on.
func (b *both) again() {
	b.t.Helper()
	h, e := New(isTree(b.m.node), b.m.node)
	if e != api.OK || load(h, put(b.h)) != api.OK {
		b.t.Fatalf("%x is not read", put(b.h))
	}
	b.h = h
	b.has()
}

// queued asks which messages wait for a node.
func (b *both) queued(to int, want ...msg.Msg) {
	b.t.Helper()
	b.has()
	var got []msg.Msg
	for _, x := range b.h.Links().Queue(to) {
		m, _ := msg.Read(x.Data)
		got = append(got, m)
	}
	if !slices.EqualFunc(got, want, msg.Same) {
		b.t.Fatalf("to %d: %v, not %v", to, got, want)
	}
}

// ended lets the numbers of a link end: the next text has a number above MaxTime.
func (b *both) ended(to int, next uint64) {
	b.t.Helper()
	b.m.next[to], b.m.queue[to] = next, nil
	if e := load(b.h, b.m.raw()); e != api.OK {
		b.t.Fatalf("Load: %v", e)
	}
	b.has()
}

package peers

import (
	"bytes"
	"math"
	"math/rand"
	"slices"
	"testing"

	"trug/api"
	"trug/wire"
)

// stand is how a shard stands to a seller, by the words of the document.
type stand struct {
	state int
	peers []int
}

// model is peers by the words of the document; of a seller that is missing the state is 0.
type model struct {
	node    int
	sellers map[int]stand
}

// newModel is peers that subscribe to nothing.
func newModel(node int) *model { return &model{node, map[int]stand{}} }

// raw is the bytes that the document gives peers.
func (m *model) raw() []byte {
	w := wire.New().Num(uint64(m.node))
	for seller := 1; seller <= 12; seller++ {
		x := m.sellers[seller]
		w.Num(uint64(x.state)).Num(uint64(len(x.peers)))
		for _, n := range x.peers {
			w.Num(uint64(n))
		}
	}
	return w.Bytes()
}

// numbers is the nodes' and sellers' numbers, and such as are none's.
func numbers() []int {
	list := []int{0, -1, 13, 14, math.MinInt, math.MaxInt, 1 << 32, 1<<32 + 1, 1<<32 + 12, -12}
	for n := 1; n <= 12; n++ {
		list = append(list, n)
	}
	return list
}

// isOne tells whether a number is a node's, or a seller's.
func isOne(n int) bool { return n >= 1 && n <= 12 }

// put is the bytes of peers.
func put(p *Peers) []byte {
	w := wire.New()
	p.Put(w)
	return w.Bytes()
}

// has asks all that peers tell, and their bytes.
func has(t *testing.T, p *Peers, m *model) {
	t.Helper()
	if p.Node() != m.node {
		t.Fatalf("Node: %d, not %d", p.Node(), m.node)
	}
	var sellers []int
	for _, n := range numbers() {
		x := m.sellers[n]
		if got := p.State(n); got != x.state {
			t.Fatalf("State(%d): %d, not %d", n, got, x.state)
		}
		if got := p.Of(n); !slices.Equal(got, x.peers) {
			t.Fatalf("Of(%d): %v, not %v", n, got, x.peers)
		}
		if x.state != 0 {
			sellers = append(sellers, n)
		}
	}
	if got := p.Sellers(); !slices.Equal(got, sellers) {
		t.Fatalf("Sellers: %v, not %v", got, sellers)
	}
	if b := put(p); !bytes.Equal(b, m.raw()) {
		t.Fatalf("Put: %x, not %x", b, m.raw())
	}
}

// start is peers that subscribe to nothing, and their model.
func start(t *testing.T, node int) (*Peers, *model) {
	t.Helper()
	p, e := New(node)
	if p == nil || e != api.OK {
		t.Fatalf("New(%d): %v %v", node, p, e)
	}
	return p, newModel(node)
}

// known is peers of the node 5, that stand to the sellers 1 to 6 as they may, and their model.
func known(t *testing.T) (*Peers, *model) {
	t.Helper()
	m := newModel(5)
	m.sellers = map[int]stand{1: {1, []int{7}}, 2: {2, nil}, 3: {2, []int{4}}, 4: {2, []int{1, 7, 12}}, 5: {3, []int{9}}, 6: {2, []int{1, 2, 3, 4, 6, 7, 8, 9, 10, 11, 12}}}
	p := read(t, m.raw())
	has(t, p, m)
	return p, m
}

// is asks for an error.
func is(t *testing.T, what string, e, want api.Errno) {
	t.Helper()
	if e != want {
		t.Fatalf("%s: %v, not %v", what, e, want)
	}
}

// may asks whether something was so.
func may(t *testing.T, what string, got, want bool) {
	t.Helper()
	if got != want {
		t.Fatalf("%s: %t", what, got)
	}
}

// leave asks whom it asks to leave.
func leave(t *testing.T, p *Peers, seller, want int, e api.Errno) {
	t.Helper()
	if n, f := p.Leave(seller); n != want || f != e {
		t.Fatalf("Leave(%d): %d %v, not %d %v", seller, n, f, want, e)
	}
}

// TestNew: P21.1, of each node peers that subscribe to nothing; of no node none.
func TestNew(t *testing.T) {
	for _, n := range numbers() {
		if isOne(n) {
			p, m := start(t, n)
			has(t, p, m)
			p.Found(3)
			other, _ := New(n)
			has(t, other, m) // another one
		} else if p, e := New(n); p != nil || e != api.ErrNode {
			t.Errorf("New(%d): %v %v", n, p, e)
		}
	}
}

// TestNil: P21.1 and P1, of nil, and of peers that no call made.
func TestNil(t *testing.T) {
	for _, p := range []*Peers{nil, {}, new(Peers)} {
		if p.Node() != 0 || len(p.Sellers()) != 0 {
			t.Errorf("Node %d, Sellers %v", p.Node(), p.Sellers())
		}
		for _, a := range numbers() {
			if p.State(a) != 0 || len(p.Of(a)) != 0 {
				t.Errorf("State, Of %d: %d %v", a, p.State(a), p.Of(a))
			}
			is(t, "Found", p.Found(a), api.ErrNil)
			leave(t, p, a, 0, api.ErrNil)
			for _, b := range numbers() {
				is(t, "Join", p.Join(a, b), api.ErrNil)
				may(t, "Asked", p.Asked(a, b), false)
				may(t, "Leaving", p.Leaving(a, b), false)
				for _, yes := range []bool{true, false} {
					is(t, "Joined", p.Joined(a, b, yes), api.ErrNil)
					is(t, "Left", p.Left(a, b, yes), api.ErrNil)
				}
			}
		}
		if len(put(p)) != 0 {
			t.Errorf("Put: %x", put(p))
		}
		p.Put(nil)
	}
}

// TestFound: P21.2, of each seller that it does not know; the document's example.
func TestFound(t *testing.T) {
	p, m := start(t, 5)
	for _, n := range numbers() {
		if !isOne(n) {
			is(t, "Found", p.Found(n), api.ErrSeller)
		} else {
			is(t, "Found", p.Found(n), api.OK)
			m.sellers[n] = stand{state: 2}
		}
		has(t, p, m)
	}
	leave(t, p, 3, 0, api.ErrState)
	p, m = known(t)
	for n := 1; n <= 6; n++ { // whatever its state is
		is(t, "Found", p.Found(n), api.ErrTwice)
	}
	has(t, p, m)
	is(t, "Found", p.Found(7), api.OK)
	m.sellers[7] = stand{state: 2}
	has(t, p, m)
}

// TestJoin: P21.2, through each other node; of several errors the first one.
func TestJoin(t *testing.T) {
	for _, n := range numbers() {
		p, m := start(t, 5)
		if !isOne(n) || n == 5 {
			is(t, "Join", p.Join(3, n), api.ErrNode)
		} else {
			is(t, "Join", p.Join(3, n), api.OK)
			m.sellers[3] = stand{1, []int{n}}
		}
		has(t, p, m)
	}
	p, m := known(t)
	for _, n := range numbers() {
		if isOne(n) {
			continue
		}
		for _, source := range []int{1, 5, 0, 13} {
			is(t, "Join", p.Join(n, source), api.ErrSeller)
		}
		for seller := 1; seller <= 12; seller++ {
			is(t, "Join", p.Join(seller, n), api.ErrNode)
		}
	}
	for seller := 1; seller <= 6; seller++ {
		is(t, "Join", p.Join(seller, 5), api.ErrNode)
		for _, source := range []int{1, 7, 9, 12} {
			is(t, "Join", p.Join(seller, source), api.ErrTwice)
		}
	}
	has(t, p, m)
}

// TestAsked: P21.2, each other node may join through one that is ready, once.
func TestAsked(t *testing.T) {
	p, m := start(t, 5)
	is(t, "Found", p.Found(3), api.OK)
	m.sellers[3] = stand{2, nil}
	for _, n := range []int{7, 12, 1, 6, 4, 11, 2, 10, 9, 3, 8} {
		may(t, "Asked", p.Asked(3, n), true)
		list := append(slices.Clone(m.sellers[3].peers), n)
		slices.Sort(list)
		m.sellers[3] = stand{2, list}
		has(t, p, m)
	}
	for _, n := range numbers() {
		may(t, "Asked again", p.Asked(3, n), false)
		has(t, p, m)
	}
	p, m = known(t)
	for _, n := range numbers() {
		for _, seller := range append(numbers()[:10:10], 1, 5, 7, 12) { // of none, of those that join, leave, or are not known
			may(t, "Asked", p.Asked(seller, n), false)
		}
		if !isOne(n) || n == 5 {
			may(t, "Asked", p.Asked(2, n), false)
			may(t, "Asked", p.Asked(4, n), false)
		}
	}
	for _, n := range []int{1, 7, 12} {
		may(t, "Asked", p.Asked(4, n), false)
	}
	has(t, p, m)
}

// TestJoined: P21.2, with yes it is ready, without it does not subscribe; others than that through which it joins tell nothing.
func TestJoined(t *testing.T) {
	p, m := known(t)
	is(t, "Joined", p.Joined(1, 7, true), api.OK)
	m.sellers[1] = stand{2, []int{7}}
	has(t, p, m)
	is(t, "Joined", p.Joined(1, 7, true), api.ErrState)
	is(t, "Joined", p.Joined(1, 7, false), api.ErrState)
	has(t, p, m)

	p, m = known(t)
	for _, n := range numbers() {
		for _, yes := range []bool{true, false} {
			for _, seller := range numbers() {
				if seller != 1 || n != 7 {
					is(t, "Joined", p.Joined(seller, n, yes), api.ErrState)
				}
			}
		}
	}
	has(t, p, m)
	is(t, "Joined", p.Joined(1, 7, false), api.OK)
	delete(m.sellers, 1)
	has(t, p, m)
	is(t, "Join", p.Join(1, 8), api.OK) // from the beginning: nothing is left of the other one
	m.sellers[1] = stand{1, []int{8}}
	has(t, p, m)
	is(t, "Joined", p.Joined(1, 7, true), api.ErrState)
	is(t, "Joined", p.Joined(1, 8, true), api.OK)
	m.sellers[1] = stand{2, []int{8}}
	has(t, p, m)
}

// TestLeave: P21.3, one that is ready, and has just one peer; of several errors the first one.
func TestLeave(t *testing.T) {
	p, m := known(t)
	for _, n := range numbers() {
		if !isOne(n) {
			leave(t, p, n, 0, api.ErrSeller)
		}
	}
	for _, n := range []int{7, 8, 12} {
		leave(t, p, n, 0, api.ErrNone)
	}
	for _, n := range []int{1, 5} { // each has just one peer
		leave(t, p, n, 0, api.ErrBusy)
	}
	for _, n := range []int{2, 4, 6} {
		leave(t, p, n, 0, api.ErrState)
	}
	has(t, p, m)
	leave(t, p, 3, 4, api.OK)
	m.sellers[3] = stand{3, []int{4}}
	has(t, p, m)
	leave(t, p, 3, 0, api.ErrBusy)
	may(t, "Leaving", p.Leaving(4, 7), true)
	may(t, "Leaving", p.Leaving(4, 1), true)
	m.sellers[4] = stand{2, []int{12}}
	has(t, p, m)
	leave(t, p, 4, 12, api.OK)
	m.sellers[4] = stand{3, []int{12}}
	has(t, p, m)
}

// TestLeaving: P21.3, each peer of one that is ready may leave, once; it may join again.
func TestLeaving(t *testing.T) {
	p, m := known(t)
	for _, n := range numbers() {
		for _, seller := range append(numbers()[:10:10], 1, 2, 5, 7, 12) {
			may(t, "Leaving", p.Leaving(seller, n), false)
		}
		if !slices.Contains([]int{1, 7, 12}, n) {
			may(t, "Leaving", p.Leaving(4, n), false)
		}
	}
	has(t, p, m)
	may(t, "Leaving", p.Leaving(4, 7), true)
	m.sellers[4] = stand{2, []int{1, 12}}
	has(t, p, m)
	may(t, "Leaving", p.Leaving(4, 7), false)
	may(t, "Leaving", p.Leaving(3, 4), true) // the only one
	m.sellers[3] = stand{2, nil}
	has(t, p, m)
	leave(t, p, 3, 0, api.ErrState)
	may(t, "Asked", p.Asked(4, 7), true)
	m.sellers[4] = stand{2, []int{1, 7, 12}}
	has(t, p, m)
	for n := 12; n >= 1; n-- {
		may(t, "Leaving", p.Leaving(6, n), n != 5)
	}
	m.sellers[6] = stand{2, nil}
	has(t, p, m)
}

// TestLeft: P21.3, with yes it does not subscribe, without it is ready, with its peer; others than that peer tell nothing.
func TestLeft(t *testing.T) {
	p, m := known(t)
	for _, n := range numbers() {
		for _, yes := range []bool{true, false} {
			for _, seller := range numbers() {
				if seller != 5 || n != 9 {
					is(t, "Left", p.Left(seller, n, yes), api.ErrState)
				}
			}
		}
	}
	has(t, p, m)
	is(t, "Left", p.Left(5, 9, false), api.OK)
	m.sellers[5] = stand{2, []int{9}}
	has(t, p, m)
	is(t, "Left", p.Left(5, 9, true), api.ErrState)
	is(t, "Left", p.Left(5, 9, false), api.ErrState)
	leave(t, p, 5, 9, api.OK)
	is(t, "Left", p.Left(5, 9, true), api.OK)
	delete(m.sellers, 5)
	has(t, p, m)
	is(t, "Left", p.Left(5, 9, true), api.ErrState)
	is(t, "Found", p.Found(5), api.OK) // without the peer that it had
	m.sellers[5] = stand{2, nil}
	has(t, p, m)
}

// TestBothStay: P21.5, two that ask each other to leave both stay; one behind the other, just one of them leaves.
func TestBothStay(t *testing.T) {
	a, m := start(t, 1)
	b, n := start(t, 2)
	a.Found(3)
	is(t, "Join", b.Join(3, 1), api.OK)
	may(t, "Asked", a.Asked(3, 2), true)
	is(t, "Joined", b.Joined(3, 1, true), api.OK)
	leave(t, a, 3, 2, api.OK)
	leave(t, b, 3, 1, api.OK)
	may(t, "Leaving", b.Leaving(3, 1), false)
	may(t, "Leaving", a.Leaving(3, 2), false)
	is(t, "Left", a.Left(3, 2, false), api.OK)
	is(t, "Left", b.Left(3, 1, false), api.OK)
	m.sellers[3], n.sellers[3] = stand{2, []int{2}}, stand{2, []int{1}}
	has(t, a, m)
	has(t, b, n)
	leave(t, a, 3, 2, api.OK)
	may(t, "Leaving", b.Leaving(3, 1), true)
	leave(t, b, 3, 0, api.ErrState)
	is(t, "Left", a.Left(3, 2, true), api.OK)
	delete(m.sellers, 3)
	n.sellers[3] = stand{2, nil}
	has(t, a, m)
	has(t, b, n)
}

// TestOwnMemory: the rule 5: what is handed out is new.
func TestOwnMemory(t *testing.T) {
	p, m := known(t)
	for n := 1; n <= 6; n++ {
		of := p.Of(n)
		for i := range of {
			of[i] = 5
		}
		_ = append(of, 5)
	}
	for i, sellers := 0, p.Sellers(); i < len(sellers); i++ {
		sellers[i] = 12
	}
	has(t, p, m)
}

// answer is what a call of the model answers.
type answer struct {
	n  int
	is bool
	e  api.Errno
}

// isPeer tells whether a node is a peer.
func (m *model) isPeer(seller, n int) bool { return slices.Contains(m.sellers[seller].peers, n) }

// begin does Found, if from is 0, and Join, by the words of the document.
func (m *model) begin(seller, from int, joins bool) answer {
	switch {
	case !isOne(seller):
		return answer{e: api.ErrSeller}
	case joins && (!isOne(from) || from == m.node):
		return answer{e: api.ErrNode}
	case m.sellers[seller].state != 0:
		return answer{e: api.ErrTwice}
	case joins:
		m.sellers[seller] = stand{1, []int{from}}
	default:
		m.sellers[seller] = stand{2, nil}
	}
	return answer{}
}

// asked does Asked, and Leaving, by the words of the document.
func (m *model) asked(seller, from int, leaves bool) answer {
	x := m.sellers[seller]
	if x.state != 2 || !isOne(from) || from == m.node || m.isPeer(seller, from) != leaves {
		return answer{}
	}
	list := slices.DeleteFunc(slices.Clone(x.peers), func(n int) bool { return n == from })
	if !leaves {
		list = append(list, from)
		slices.Sort(list)
	}
	m.sellers[seller] = stand{2, list}
	return answer{is: true}
}

// told does Joined, and Left, by the words of the document: the state in which it must be, and that in which it is then.
func (m *model) told(seller, from, state, then int) answer {
	x := m.sellers[seller]
	switch {
	case x.state != state || !m.isPeer(seller, from):
		return answer{e: api.ErrState}
	case then == 0:
		delete(m.sellers, seller)
	default:
		m.sellers[seller] = stand{then, x.peers}
	}
	return answer{}
}

// leave does Leave by the words of the document.
func (m *model) leave(seller int) answer {
	x := m.sellers[seller]
	switch {
	case !isOne(seller):
		return answer{e: api.ErrSeller}
	case x.state == 0:
		return answer{e: api.ErrNone}
	case x.state != 2:
		return answer{e: api.ErrBusy}
	case len(x.peers) != 1:
		return answer{e: api.ErrState}
	}
	m.sellers[seller] = stand{3, x.peers}
	return answer{n: x.peers[0]}
}

// both does one of the calls, and asks the model.
func both(p *Peers, m *model, call, seller, from int) (got, want answer) {
	switch call {
	case 0:
		return answer{e: p.Found(seller)}, m.begin(seller, from, false)
	case 1:
		return answer{e: p.Join(seller, from)}, m.begin(seller, from, true)
	case 2:
		return answer{is: p.Asked(seller, from)}, m.asked(seller, from, false)
	case 3:
		return answer{is: p.Leaving(seller, from)}, m.asked(seller, from, true)
	case 4:
		return answer{e: p.Joined(seller, from, true)}, m.told(seller, from, 1, 2)
	case 5:
		return answer{e: p.Joined(seller, from, false)}, m.told(seller, from, 1, 0)
	case 6:
		return answer{e: p.Left(seller, from, true)}, m.told(seller, from, 3, 0)
	case 7:
		return answer{e: p.Left(seller, from, false)}, m.told(seller, from, 3, 2)
	}
	n, e := p.Leave(seller)
	return answer{n: n, e: e}, m.leave(seller)
}

// TestAny: P21.1 to P21.4 and P21.6, whatever is called, in whatever order, what is told is what the document says; of each seller apart.
func TestAny(t *testing.T) {
	r := rand.New(rand.NewSource(1))
	var seen [4]int
	for range 60 {
		p, m := start(t, 1+r.Intn(12))
		most := 2 + r.Intn(11)
		for range 400 {
			call, seller, from := r.Intn(9), r.Intn(most+2), r.Intn(4)*r.Intn(5)
			if of := m.sellers[seller].peers; len(of) > 0 && r.Intn(2) == 0 {
				from = of[r.Intn(len(of))]
			}
			if got, want := both(p, m, call, seller, from); got != want {
				t.Fatalf("the call %d of %d from %d: %v, not %v", call, seller, from, got, want)
			}
			has(t, p, m)
			seen[m.sellers[seller].state]++
			if r.Intn(50) == 0 {
				p = read(t, put(p)) // it goes on as it was
			}
		}
	}
	if slices.Min(seen[:]) < 500 {
		t.Errorf("states: %v: of little worth", seen)
	}
}

package state

import (
	"math"
	"slices"
	"testing"

	"trug/api"
	"trug/cuts"
	"trug/home"
	"trug/label"
	"trug/links"
	"trug/msg"
	"trug/op"
	"trug/relay"
	"trug/shard"
	"trug/tree"
	"trug/wire"
)

// great is a tree of all kinds: the homes 1 and 6; the shards 2, 3 and 12; the serializers 4, 5 and 9 in a row; at the others nobody.
func great() tree.Tree {
	return tree.Tree{Kinds: [12]int{1, 2, 2, 3, 3, 1, 0, 0, 3, 0, 0, 2}, Edges: []tree.Edge{
		{A: 1, B: 4}, {A: 2, B: 4}, {A: 4, B: 5}, {A: 3, B: 5}, {A: 5, B: 9}, {A: 9, B: 6}, {A: 12, B: 9},
	}}
}

// small is a home 1, a shard 2, a serializer 3.
func small() tree.Tree {
	return tree.Tree{Kinds: [12]int{1, 2, 3}, Edges: []tree.Edge{{A: 1, B: 3}, {A: 2, B: 3}}}
}

// alone is a serializer 2, and nobody else.
func alone() tree.Tree { return tree.Tree{Kinds: [12]int{0, 3}} }

// of is the Nth event's label of a node, for a cart, at the seller 3.
func of(node, cart int, n uint32) label.Label {
	l := label.Label{Time: uint64(n) + 6, Node: node, N: n, Cart: cart, Seller: 3}
	l.Deps[node-1] = n - 1
	return l
}

// add is that event, that adds 2 of the sku 5.
func add(node, cart int, n uint32) op.Event {
	return op.Event{Label: of(node, cart, n), Op: op.Op{Kind: 1, Sku: 5, Qty: 2}}
}

// messages is one of each kind.
func messages() []msg.Msg {
	list := []msg.Msg{msg.Of(of(2, 1, 1)), msg.Hand(add(3, 1, 1)), msg.Part(add(3, 1, 2)), msg.End(3, 1)}
	for _, kind := range []int{4, 6, 7, 8, 9} {
		list = append(list, msg.Ask(kind, 3))
	}
	return append(list, msg.Say(1, 1, cuts.Stance{Has: true, Time: 5}), msg.Say(1, 1, cuts.Stance{}))
}

// wrong is messages that may not be.
func wrong() []msg.Msg {
	late := of(2, 1, 1)
	late.Time = api.MaxTime + 1
	return []msg.Msg{
		{}, {Kind: 11}, {Kind: -1}, msg.Of(label.Label{}), msg.Of(late), msg.Of(of(2, 13, 1)), msg.Hand(op.Event{}), msg.Ask(4, 0), msg.Ask(4, 13),
		{Kind: 1, Label: of(2, 1, 1), Cart: 1}, {Kind: 4, Seller: 3, Count: 1}, msg.End(3, 201), msg.Say(1, 22, cuts.Stance{}), msg.Say(0, 1, cuts.Stance{}),
	}
}

// numbers is the nodes' numbers, and such as are none's.
func numbers() []int {
	list := []int{0, -1, 13, 14, math.MinInt, math.MaxInt, 1 << 32, 1<<32 + 1, 1<<32 + 4, -4}
	for n := 1; n <= 12; n++ {
		list = append(list, n)
	}
	return list
}

// made is a state to which nothing happened.
func made(t *testing.T, x tree.Tree, node int) *State {
	t.Helper()
	s, e := New(x, node)
	if s == nil || e != api.OK || s.Node() != node || s.Kind() != x.Kinds[node-1] {
		t.Fatalf("New of %d: %v %v", node, s, e)
	}
	return s
}

// is tells which of home, shard and relay there are.
func is(s *State) [3]bool { return [3]bool{s.Home() != nil, s.Shard() != nil, s.Relay() != nil} }

// TestNew: P27.1, each node that is there has a state, of its kind.
func TestNew(t *testing.T) {
	x := great()
	for n := 1; n <= 12; n++ {
		if x.Kinds[n-1] == 0 {
			continue
		}
		s := made(t, x, n)
		if want := [3]bool{s.Kind() == 1, s.Kind() == 2, s.Kind() == 3}; is(s) != want {
			t.Errorf("the node %d: %v", n, is(s))
		}
		if s.Links().Own() != n || len(s.Links().Peers()) != 0 {
			t.Errorf("the node %d: Links of %d", n, s.Links().Own())
		}
	}
	made(t, alone(), 2)
	h, r, d := made(t, x, 6), made(t, x, 5), made(t, x, 12)
	if h.Home().Index(1).Cart() != 1 || h.Home().Cuts(1).Home() != 6 || h.Home().Cuts(1).Other() != 1 || h.Home().Time() != 0 {
		t.Errorf("Home: %v", h.Home())
	}
	if d.Shard().Peers().Node() != 12 || d.Shard().Store().Len() != 0 || d.Shard().Unclean() || r.Relay().Node() != 5 {
		t.Errorf("Shard: %v, Relay: %v", d.Shard(), r.Relay())
	}
	for n := 1; n <= 12; n++ {
		if came, went := r.Relay().Count(n); came != 0 || went != 0 {
			t.Errorf("Count(%d): %d %d", n, came, went)
		}
	}
}

// TestNewErrors: P27.1, ErrForm ahead of ErrNode.
func TestNewErrors(t *testing.T) {
	for _, n := range numbers() {
		if n >= 1 && n <= 12 && great().Kinds[n-1] != 0 {
			continue
		}
		if s, e := New(great(), n); s != nil || e != api.ErrNode {
			t.Errorf("New of %d: %v %v", n, s, e)
		}
		if s, e := New(tree.Tree{}, n); s != nil || e != api.ErrNode {
			t.Errorf("New of %d, of no nodes: %v %v", n, s, e)
		}
	}
	for what, x := range map[string]tree.Tree{
		"an edge is missing": {Kinds: small().Kinds, Edges: small().Edges[:1]},
		"an edge twice":      {Kinds: small().Kinds, Edges: append(small().Edges, tree.Edge{A: 3, B: 1})},
		"the kind 4":         {Kinds: [12]int{1, 2, 3, 4}, Edges: small().Edges},
		"the kind -1":        {Kinds: [12]int{1, 2, 3, -1}, Edges: small().Edges},
		"a home alone":       {Kinds: [12]int{1}},
		"a ring":             {Kinds: [12]int{3, 3, 3}, Edges: []tree.Edge{{A: 1, B: 2}, {A: 2, B: 3}, {A: 3, B: 1}}},
	} {
		for _, n := range numbers() {
			if s, e := New(x, n); s != nil || e != api.ErrForm {
				t.Errorf("New, %s, of %d: %v %v", what, n, s, e)
			}
			if s, e := Load(x, n, nil); s != nil || e != api.ErrForm {
				t.Errorf("Load, %s, of %d: %v %v", what, n, s, e)
			}
		}
	}
}

// TestNil: P27.1 and P1, of nil, and of states that no call made.
func TestNil(t *testing.T) {
	for _, s := range []*State{nil, {}, new(State)} {
		if s.Node() != 0 || s.Kind() != 0 || is(s) != [3]bool{} || s.Links() != nil || len(s.Save()) != 0 {
			t.Errorf("%v: %d %d %v %v %x", s, s.Node(), s.Kind(), is(s), s.Links(), s.Save())
		}
		for _, n := range numbers() {
			for _, m := range append(messages(), wrong()...) { // ahead of all other errors
				if e := s.May(n, m); e != api.ErrNil {
					t.Errorf("May from %d of %v: %v", n, m, e)
				}
				if e := s.Hear(n, m); e != api.ErrNil {
					t.Errorf("Hear from %d of %v: %v", n, m, e)
				}
			}
		}
	}
}

// TestEmptied: P1, no call panics of states whose parts were overwritten by such as no call made.
func TestEmptied(t *testing.T) {
	for _, n := range []int{1, 2, 4} {
		for what := range 2 {
			s := made(t, great(), n)
			switch {
			case what == 0:
				*s.Links() = links.Links{}
			case n == 1:
				*s.Home() = home.Home{}
			case n == 2:
				*s.Shard() = shard.Shard{}
			default:
				*s.Relay() = relay.Relay{}
			}
			for _, m := range append(messages(), wrong()...) {
				for _, from := range numbers() {
					s.May(from, m)
					s.Hear(from, m)
				}
			}
			s.Save()
			s.Links()
			if s.Node() != n || s.Kind() != great().Kinds[n-1] {
				t.Errorf("Node: %d, Kind: %d", s.Node(), s.Kind())
			}
		}
	}
}

// TestHandedOut: P27.1 and the rule 5, one and the same is handed out, and what happens to it is the state's.
func TestHandedOut(t *testing.T) {
	for _, n := range []int{1, 2, 4} {
		s := made(t, great(), n)
		if s.Home() != s.Home() || s.Shard() != s.Shard() || s.Relay() != s.Relay() || s.Links() != s.Links() {
			t.Errorf("the node %d: another one", n)
		}
		if n == 1 && s.Links() != s.Home().Links() || n == 2 && s.Links() != s.Shard().Links() {
			t.Errorf("the node %d: Links are not its own", n)
		}
		before := s.Save()
		s.Links().Send(5, []byte("x"))
		if len(s.Links().Queue(5)) != 1 || string(before) == string(s.Save()) {
			t.Errorf("the node %d: %v", n, s.Links().Queue(5))
		}
	}
	s := made(t, great(), 2)
	s.Shard().Found(3)
	if e := s.Hear(3, msg.Ask(4, 3)); e != api.OK || !slices.Equal(s.Shard().Peers().Of(3), []int{3}) {
		t.Errorf("Hear: %v %v", e, s.Shard().Peers().Of(3))
	}
	s = made(t, great(), 4)
	s.Relay().Hear(2, of(2, 1, 1))
	if came, _ := s.Relay().Count(2); came != 1 {
		t.Errorf("Count: %d", came)
	}
}

// bytesOf is what a home, or a shard, puts.
func bytesOf(put func(w *wire.Writer)) string {
	w := wire.New()
	put(w)
	return string(w.Bytes())
}

// TestHome: P27.2 and P27.3, what a home's state tells, and is saved as, is what that home tells, and puts.
func TestHome(t *testing.T) {
	s, x := made(t, great(), 1), must(home.New(great(), 1))
	for i, m := range append(messages(), wrong()...) {
		for _, from := range append(numbers(), 6) {
			if e, f := s.May(from, m), x.May(from, m); e != f {
				t.Fatalf("May from %d of %v: %v, not %v", from, m, e, f)
			}
			if e, f := s.Hear(from, m), x.Hear(from, m); e != f {
				t.Fatalf("Hear from %d of %v: %v, not %v", from, m, e, f)
			}
			if string(s.Save()) != bytesOf(x.Put) {
				t.Fatalf("Save behind %d: %x, not %x", i, s.Save(), bytesOf(x.Put))
			}
		}
	}
	if v := s.Home().Index(1).Vector(); v != (api.Vector{0, 1}) || s.Home().Time() != 7 || len(s.Links().Queue(6)) != 1 {
		t.Errorf("%v %d %v", v, s.Home().Time(), s.Links().Queue(6))
	}
	for range 249 {
		s.Links().Send(6, []byte("x"))
	}
	if e := s.May(6, msg.Say(2, 1, cuts.Stance{Has: true, Time: 5})); e != api.ErrBusy {
		t.Errorf("May without room: %v", e)
	}
}

// TestShard: P27.2 and P27.3, what a shard's state tells, and is saved as, is what that shard tells, and puts.
func TestShard(t *testing.T) {
	s, x := made(t, great(), 2), must(shard.New(great(), 2))
	s.Shard().Found(3)
	x.Found(3)
	for i, m := range append(messages(), wrong()...) {
		for _, from := range append(numbers(), 12, 3) {
			if e, f := s.May(from, m), x.May(from, m); e != f {
				t.Fatalf("May from %d of %v: %v, not %v", from, m, e, f)
			}
			if e, f := s.Hear(from, m), x.Hear(from, m); e != f {
				t.Fatalf("Hear from %d of %v: %v, not %v", from, m, e, f)
			}
			if string(s.Save()) != bytesOf(x.Put) {
				t.Fatalf("Save behind %d: %x, not %x", i, s.Save(), bytesOf(x.Put))
			}
		}
	}
	if s.Shard().Store().Len() != 1 || len(s.Links().Queue(3)) == 0 {
		t.Errorf("%d %v", s.Shard().Store().Len(), s.Links().Queue(3))
	}
	if e := s.May(4, msg.Of(of(2, 1, 1))); e != api.ErrNode { // its serializer is no shard
		t.Errorf("May from its serializer: %v", e)
	}
}

// must is what a call made.
func must[T any](x T, e api.Errno) T {
	if e != api.OK {
		panic(e)
	}
	return x
}

package state

import (
	"math/rand"
	"slices"
	"testing"

	"trug/api"
	"trug/cuts"
	"trug/msg"
	"trug/op"
	"trug/tree"
	"trug/wire"
)

// busy is a state of a node of the great tree, to which much happened.
func busy(t *testing.T, node int) *State {
	t.Helper()
	s := made(t, great(), node)
	switch s.Kind() {
	case 1:
		for n := uint32(1); n < 4; n++ {
			s.Hear(4, msg.Of(of(2, 1, n)))
			s.Hear(4, msg.Of(of(3, 12, 2*n)))
		}
		s.Home().Checkout(1, api.Vector{}, 30)
		s.Hear(6, msg.Say(2, 1, cuts.Stance{Has: true, Time: 300, Cut: api.Vector{2}}))
	case 2:
		s.Shard().Found(3)
		s.Shard().Join(4, 3)
		s.Hear(12, msg.Ask(4, 3))
		for range 3 {
			s.Shard().Do(1, 3, api.Vector{}, 0, op.Op{Kind: 6, Sku: 1, Price: 1.5})
		}
		s.Hear(12, msg.Hand(add(12, 5, 1)))
		s.Hear(3, msg.Ask(4, 3))
		s.Shard().Found(7)
		s.Shard().Soil()
	case 3:
		for n := uint32(1); n < 4; n++ {
			s.Hear(tree.Next(great(), node)[0], msg.Of(of(2, 1, n)))
			s.Hear(tree.Next(great(), node)[1], msg.Of(of(3, 2, n)))
		}
	}
	for n := uint64(1); n < 3; n++ {
		s.Links().Acked(tree.Next(great(), node)[0], n)
	}
	if len(s.Save()) < 40 {
		t.Fatalf("%x: of little worth", s.Save())
	}
	return s
}

// nodes is the nodes of the great tree.
func nodes() []int { return []int{1, 2, 3, 4, 5, 6, 9, 12} }

// TestSaveKnown: P27.3, bytes that are known: of a serializer the relay's, and, behind, the links'.
func TestSaveKnown(t *testing.T) {
	s := made(t, small(), 3)
	if b := s.Save(); string(b) != "\x00\x00\x00\x00\x03\x00" {
		t.Errorf("Save: %x", b)
	}
	s.Hear(2, msg.Of(of(2, 1, 1)))
	s.Hear(2, msg.Of(of(2, 1, 2)))
	s.Hear(1, msg.Of(of(2, 1, 2)))
	s.Links().Acked(1, 1)
	if b := s.Save(); string(b) != "\x01\x02\x02\x00\x03\x01\x01\x03\x01\x09\x01\x08\x02\x02\x01\x03\x02\x00\x01\x01" {
		t.Errorf("Save: %x", b)
	}
	if b := made(t, alone(), 2).Save(); string(b) != "\x02\x00" {
		t.Errorf("Save without neighbours: %x", b)
	}
	if b := made(t, small(), 1).Save(); string(b[:3]) != "\x00\x01\x00" || len(b) != 3+12*(1+3+1+5) { // Time, links, and of each cart two texts
		t.Errorf("Save of a home: %x", b)
	}
	if b := made(t, small(), 2).Save(); string(b) != "\x00\x02"+string(make([]byte, 24+12+1))+"\x02"+string(make([]byte, 1+12+1)) {
		t.Errorf("Save of a shard: %x", b)
	}
}

// TestThere: P27.3, P27.4 and P2, states of each node go there and back, and go on as they were.
func TestThere(t *testing.T) {
	for _, n := range nodes() {
		for _, s := range []*State{made(t, great(), n), busy(t, n)} {
			b := s.Save()
			u, e := Load(great(), n, b)
			if u == nil || e != api.OK || string(u.Save()) != string(b) || u.Node() != n || u.Kind() != s.Kind() || is(u) != is(s) {
				t.Fatalf("the node %d, %x: %v %v", n, b, u, e)
			}
			if u == s || u.Links() == s.Links() || string(s.Save()) != string(b) {
				t.Fatalf("the node %d: the same one", n)
			}
			for _, m := range messages() {
				for _, from := range nodes() {
					if u.May(from, m) != s.May(from, m) || u.Hear(from, m) != s.Hear(from, m) || string(u.Save()) != string(s.Save()) {
						t.Fatalf("the node %d: it does not go on, from %d, %v", n, from, m)
					}
				}
			}
		}
	}
}

// none: these are no bytes of a state of a node.
func none(t *testing.T, x tree.Tree, n int, b []byte, want api.Errno) {
	t.Helper()
	if s, e := Load(x, n, b); s != nil || e != want {
		t.Fatalf("Load of %d, %x: %v %v, not %v", n, b, s, e, want)
	}
}

// TestLoadErrors: P27.3 and P2, New's errors, and ErrForm of what is no such state's bytes: cut anywhere, longer, another node's.
func TestLoadErrors(t *testing.T) {
	for _, n := range nodes() {
		b := busy(t, n).Save()
		for i := range b {
			none(t, great(), n, b[:i:i], api.ErrForm)
		}
		none(t, great(), n, nil, api.ErrForm)
		none(t, great(), n, append(slices.Clone(b), 0), api.ErrForm)
		for _, other := range numbers() {
			switch {
			case other < 1 || other > 12 || great().Kinds[other-1] == 0:
				none(t, great(), other, b, api.ErrNode)
			case other != n:
				none(t, great(), other, b, api.ErrForm)
			}
		}
		none(t, tree.Tree{Kinds: great().Kinds}, n, b, api.ErrForm)
		none(t, tree.Tree{}, n, b, api.ErrNode)
	}
	if s, e := Load(small(), 2, made(t, small(), 1).Save()); s != nil || e != api.ErrForm {
		t.Errorf("Load of a home's bytes as a shard's: %v %v", s, e)
	}
}

// TestLoadFaults: P27.3, a serializer's bytes that are not in the one way, or whose parts may not be.
func TestLoadFaults(t *testing.T) {
	for what, b := range map[string]*wire.Writer{
		"a count above MaxTime":     wire.New().Num(0).Num(0).Num(api.MaxTime + 1).Num(0).Num(3).Num(0),
		"the links of another node": wire.New().Num(0).Num(0).Num(0).Num(0).Num(1).Num(0),
		"the links of no node":      wire.New().Num(0).Num(0).Num(0).Num(0).Num(0).Num(0),
		"the links ahead":           wire.New().Num(3).Num(0).Num(0).Num(0).Num(0).Num(0),
		"a link to itself":          wire.New().Num(0).Num(0).Num(0).Num(0).Num(3).Num(1).Num(3).Num(2).Num(0).Num(1),
		"a link that is not there":  wire.New().Num(0).Num(0).Num(0).Num(0).Num(3).Num(1).Num(1).Num(1).Num(0).Num(1),
	} {
		if s, e := Load(small(), 3, b.Bytes()); s != nil || e != api.ErrForm {
			t.Errorf("%s: %v %v", what, s, e)
		}
	}
	b := wire.New().Num(api.MaxTime).Num(api.MaxTime).Num(5).Num(0).Num(3).Num(1).Num(1).Num(2).Num(0).Num(9).Bytes()
	s, e := Load(small(), 3, b)
	if e != api.OK || string(s.Save()) != string(b) {
		t.Fatalf("%x: %v", b, e)
	}
	if came, went := s.Relay().Count(1); came != api.MaxTime || went != api.MaxTime {
		t.Errorf("Count: %d %d", came, went)
	}
	if p, is := s.Links().Ack(1); !is || p.Seq != 8 {
		t.Errorf("Ack: %v", p)
	}
	none(t, small(), 3, slices.Insert(slices.Clone(b), 0, 0x80), api.ErrForm)
}

// TestTurned: P27.3 and P2, whatever is read, written again, is the same, and no call panics then.
func TestTurned(t *testing.T) {
	r := rand.New(rand.NewSource(1))
	for _, n := range nodes() {
		whole, read := busy(t, n).Save(), 0
		for range 4000 {
			b := slices.Clone(whole)
			for range 1 + r.Intn(2) {
				b[r.Intn(len(b))] = []byte{0, 1, 2, 3, 5, 9, 12, 128, byte(r.Intn(256))}[r.Intn(9)]
			}
			s, e := Load(great(), n, b)
			if e != api.OK {
				none(t, great(), n, b, api.ErrForm)
				continue
			}
			read++
			if again := s.Save(); string(again) != string(b) {
				t.Fatalf("%x, written again: %x", b, again)
			}
			for _, m := range messages() {
				from := nodes()[r.Intn(8)]
				if e := s.May(from, m); e != s.Hear(from, m) {
					t.Fatalf("May and Hear tell unlike errors: %v", e)
				}
			}
			s.Save()
		}
		if read < 200 {
			t.Errorf("the node %d: %d, of little worth", n, read)
		}
	}
}

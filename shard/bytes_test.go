package shard

import (
	"bytes"
	"math/rand"
	"slices"
	"testing"

	"trug/api"
	"trug/clock"
	"trug/msg"
	"trug/packet"
	"trug/tree"
	"trug/wire"
)

// load reads a shard of bytes, with nothing behind them.
func load(s *Shard, b []byte) api.Errno { return wire.Read(b, s.Load) }

// busy is a shard to which much happened: it joins the seller 1, is ready for 3, 4 and 12, leaves 5 and 6, and is unclean.
func busy(t *testing.T) *both {
	t.Helper()
	b := isReady(t, 7, 12)
	for _, seller := range []int{4, 5, 6, 8, 12} {
		b.found(seller, api.OK)
	}
	for _, seller := range []int{4, 5, 6, 8} {
		b.hear(7, msg.Ask(4, seller), api.OK)
		b.do(seller, seller, api.Vector{300}, 1000, add, api.OK)
	}
	b.do(1, 12, unseen, 0, add, api.OK)
	b.do(1, 3, unseen, 0, add, api.OK)
	b.hear(3, msg.Hand(at(9, 1, 3, 3, 200)), api.OK)
	for _, seller := range []int{5, 8, 6} {
		b.leave(seller, api.OK)
	}
	b.hear(7, msg.Ask(8, 8), api.OK)
	b.acked(12, 1)
	b.join(1, 8, api.OK)
	b.hear(8, msg.Part(at(9, 3, 1, 8, 1)), api.OK)
	p := packet.Packet{From: 3, To: 2, Seq: 1, Data: []byte{0}}
	if _, is, e := b.s.Links().Hear(p); !is || e != api.OK {
		t.Fatalf("Hear: %v %v", is, e)
	}
	b.m.expect[3] = 2
	b.has()
	return b
}

// TestPutKnown: P24.6, bytes that are known.
func TestPutKnown(t *testing.T) {
	noughts := func(n int) string { return string(make([]byte, n)) }
	s, _ := start(t, 2)
	want := "\x00" + "\x02" + noughts(24) + noughts(12) + "\x00" + "\x02\x00" + noughts(12) + "\x00"
	if b := put(s); string(b) != want {
		t.Errorf("Put: %x, not %x", b, want)
	}
	b := isReady(t, 7)
	b.ackedAll()
	b.do(2, 3, unseen, 299, add, api.OK)
	b.ackedAll()
	b.leave(3, api.OK)
	b.s.Soil()
	want = "\x82\x2c" + "\x02" + noughts(4) + "\x03\x01\x07" + noughts(18) +
		"\x00\x02\x00\x01" + noughts(10) + "\x01" + "\x82\x2c\x02\x01\x02\x03\x00\x01\x05\x04" +
		"\x02\x02" + "\x04\x02\x00\x01" + "\x07\x04\x01\x02\x07\x03\x01" + noughts(2) + "\x03" + noughts(9) + "\x01"
	if b := put(b.s); string(b) != want {
		t.Errorf("Put: %x, not %x", b, want)
	}
}

// TestThere: P24.6 and P2, shards go there and back, behind others, and with others behind them, and go on as they were.
func TestThere(t *testing.T) {
	b := busy(t)
	was := put(b.s)
	s, other := busy(t), begin(t, 2)
	other.found(9, api.OK)
	other.do(7, 9, unseen, api.MaxTime-1, add, api.OK)
	other.s.Soil()
	p, all, l := other.s.Peers(), other.s.Store(), other.s.Links()
	w := wire.New().Num(300)
	b.s.Put(w)
	begin(t, 2).s.Put(w)
	w.Text([]byte("end"))
	e := wire.Read(w.Bytes(), func(r *wire.Reader) {
		r.Must(r.Num() == 300)
		other.s.Load(r)
		s.s.Load(r)
		r.Must(string(r.Text(3)) == "end")
	})
	if e != api.OK {
		t.Fatalf("Read: %v", e)
	}
	has(t, s.s, newModel(2)) // nothing is left of what it was
	has(t, other.s, b.m)
	if other.s.Peers() != p || other.s.Store() != all || other.s.Links() != l {
		t.Errorf("others are handed out than ahead of Load")
	}
	other.m = b.m
	other.hear(8, msg.End(1, 1), api.OK)
	other.do(3, 1, unseen, 0, add, api.OK)
	other.do(1, 3, unseen, 0, add, api.OK)
	other.hear(7, msg.Ask(8, 5), api.OK)
	other.hear(7, msg.Ask(9, 6), api.OK)
	other.has()
	if !bytes.Equal(put(b.s), was) {
		t.Errorf("the shard changed that was written")
	}
}

// TestThereClean: P24.6, also whether it is unclean.
func TestThereClean(t *testing.T) {
	for _, unclean := range []bool{false, true} {
		b := busy(t)
		b.s.Clean()
		if unclean {
			b.s.Soil()
		}
		b.m.unclean = unclean
		b.again()
	}
}

// TestCut: P24.6 and P2, cut anywhere they are nothing, and nothing has changed.
func TestCut(t *testing.T) {
	b := busy(t)
	bytes := put(b.s)
	other := busy(t)
	other.do(1, 3, unseen, 0, add, api.OK)
	for n := range bytes {
		if e := load(other.s, bytes[:n:n]); e != api.ErrShort {
			t.Fatalf("cut at %d: %v", n, e)
		}
		if n%10 == 0 {
			other.has()
		}
	}
	other.has()
	if e := load(other.s, append(slices.Clone(bytes), 0)); e != api.ErrLong {
		t.Errorf("longer: %v", e)
	}
}

// TestLoadFaults: P24.6, what may not be is a fault of the form, and nothing has changed.
func TestLoadFaults(t *testing.T) {
	other := busy(t)
	for what, change := range map[string]func(m *model){
		"late":                  func(m *model) { m.time = api.MaxTime + 1 },
		"a great Time":          func(m *model) { m.time = 1 << 63 },
		"of another node":       func(m *model) { m.node, m.own = 3, 3 },
		"peers of another node": func(m *model) { m.node = 3 },
		"peers of another node alone": func(m *model) {
			m.node, m.state, m.peers, m.events, m.asked = 3, [13]int{}, [13][]int{}, nil, [13]uint64{}
		},
		"links of another node":           func(m *model) { m.own = 1 },
		"of no node":                      func(m *model) { m.node = 0 },
		"a state that is none":            func(m *model) { m.state[9] = 4 },
		"a peer that is a home":           func(m *model) { m.peers[3] = []int{6, 7} },
		"a peer that is a serializer":     func(m *model) { m.peers[12] = []int{4} },
		"a peer that is not there":        func(m *model) { m.peers[4] = []int{10} },
		"it joins through a home":         func(m *model) { m.peers[1] = []int{1} },
		"itself is a peer":                func(m *model) { m.peers[12] = []int{2} },
		"a peer of no subscription":       func(m *model) { m.peers[9] = []int{7} },
		"an event of no subscription":     func(m *model) { m.state[12] = 0 },
		"it joined nobody, yet has parts": func(m *model) { m.state[1], m.peers[1] = 0, nil },
		"an event that is not known":      func(m *model) { m.known[1] = api.Vector{} },
		"it knows too many":               func(m *model) { m.known[12] = api.Vector{api.MaxCount + 1} },
		"a number without leaving":        func(m *model) { m.asked[3] = 1 },
		"a number of a stranger":          func(m *model) { m.asked[9] = 1 },
		"a number while it joins":         func(m *model) { m.asked[1] = 1 },
		"it leaves without a number":      func(m *model) { m.asked[5] = 0 },
		"a number that was not sent":      func(m *model) { m.asked[6] = m.next[7] },
		"a number far behind":             func(m *model) { m.asked[5] = api.MaxTime },
		"a great number":                  func(m *model) { m.asked[5] = api.MaxTime + 1 },
		"a greater number":                func(m *model) { m.asked[12] = 1 << 63 },
		"it leaves through no link":       func(m *model) { m.peers[5] = []int{12}; m.next[12], m.expect[12], m.queue[12] = 1, 1, nil },
		"a link to itself":                func(m *model) { m.next[2] = 2 },
		"a link's number is too great":    func(m *model) { m.next[4] = api.MaxTime + 2 },
	} {
		b := busy(t)
		change(b.m)
		if e := load(other.s, b.m.raw()); e != api.ErrForm {
			t.Errorf("%s: %v", what, e)
		}
		other.has()
	}
	for _, last := range []byte{2, 3, 127} {
		bytes := put(busy(t).s)
		bytes[len(bytes)-1] = last
		if e := load(other.s, bytes); e != api.ErrForm {
			t.Errorf("neither clean nor unclean: %v", e)
		}
	}
	other.has()
}

// TestLoadEdges: P24.6, what may just be.
func TestLoadEdges(t *testing.T) {
	for what, change := range map[string]func(m *model){
		"the last Time":       func(m *model) { m.time = api.MaxTime },
		"all peers":           func(m *model) { m.peers[12] = []int{3, 7, 8, 12} },
		"the last number":     func(m *model) { m.asked[6] = m.next[7] - 1 },
		"the first number":    func(m *model) { m.asked[6] = 1 },
		"a text is not there": func(m *model) { m.queue[7] = nil },
		"no events":           func(m *model) { m.events = nil },
		"a link to a home":    func(m *model) { m.next[1] = 7 },
		"a link to nobody":    func(m *model) { m.expect[11] = api.MaxTime + 1 },
		"all that is known":   func(m *model) { m.known[12] = api.Vector{11: api.MaxCount} },
		"links whose end is there": func(m *model) {
			m.next[7], m.queue[7], m.asked[5], m.asked[6] = api.MaxTime+1, nil, api.MaxTime, api.MaxTime-1
		},
	} {
		b := busy(t)
		change(b.m)
		s, _ := start(t, 2)
		if e := load(s, b.m.raw()); e != api.OK {
			t.Errorf("%s: %v", what, e)
			continue
		}
		has(t, s, b.m)
	}
}

// TestLoadElsewhere: P24.6, the bytes of a shard are no other one's, and peers of one tree may not be another one's.
func TestLoadElsewhere(t *testing.T) {
	b := busy(t)
	for _, n := range []int{3, 7, 8, 12} {
		s, m := start(t, n)
		if e := load(s, b.m.raw()); e != api.ErrForm {
			t.Errorf("Load at %d: %v", n, e)
		}
		has(t, s, m)
	}
	x := great()
	x.Kinds[11] = 1 // 12 is a home
	s, e := New(x, 2)
	if e != api.OK {
		t.Fatalf("New: %v", e)
	}
	if e := load(s, b.m.raw()); e != api.ErrForm {
		t.Errorf("Load: %v", e)
	}
	x = great()
	x.Edges[1] = tree.Edge{A: 2, B: 9} // the shard hangs elsewhere
	s, e = New(x, 2)
	if e != api.OK || load(s, b.m.raw()) != api.OK {
		t.Fatalf("New: %v", e)
	}
	has(t, s, b.m)
}

// TestOrder: P24.6, of two faults the one that is met first.
func TestOrder(t *testing.T) {
	s, _ := start(t, 2)
	b := busy(t)
	b.m.time = api.MaxTime + 1
	late := b.m.raw()
	for _, n := range []int{6, 20, len(late) - 1} {
		if e := load(s, late[:n]); e != api.ErrForm {
			t.Errorf("late, cut at %d: %v", n, e)
		}
	}
	if e := load(s, late[:5]); e != api.ErrShort {
		t.Errorf("cut within the Time: %v", e)
	}
	m := newModel(3)
	if e := load(s, m.raw()[:26]); e != api.ErrForm {
		t.Errorf("of another node, behind its peers: %v", e)
	}
}

// TestLoadNil: P1, of readers that read nothing nothing is read, and nothing has changed.
func TestLoadNil(t *testing.T) {
	b := busy(t)
	var ended *wire.Reader
	wire.Read(nil, func(r *wire.Reader) { ended = r })
	for _, r := range []*wire.Reader{nil, {}, ended} {
		b.s.Load(r)
		b.has()
	}
	b.s.Put(nil)
	b.has()
}

// TestTurned: P24.6 and P2, whatever is read, written again, is the same; what is none changes nothing, and no call panics then.
func TestTurned(t *testing.T) {
	r := rand.New(rand.NewSource(1))
	whole := put(busy(t).s)
	read := 0
	other, m := start(t, 2)
	for range 60000 {
		b := slices.Clone(whole)
		for range 1 + r.Intn(2) {
			b[r.Intn(len(b))] = []byte{0, 1, 2, 3, 7, 12, 13, 128, byte(r.Intn(256))}[r.Intn(9)]
		}
		s, _ := New(great(), 2)
		if e := load(s, b); e != api.OK {
			if load(other, b) == api.OK || len(put(other)) != len(put(s)) {
				t.Fatalf("%x: it changed", b)
			}
			continue
		}
		read++
		if again := put(s); !bytes.Equal(again, b) {
			t.Fatalf("%x, written again: %x", b, again)
		}
		for seller := 1; seller <= 12; seller++ {
			s.Do(1, seller, unseen, 5, add)
			s.Lines(1, seller, []clock.Dot{{Node: 3, N: 200}}, unseen, api.Vector{9, 9})
			s.Leave(seller)
		}
		for _, x := range messages() {
			s.Hear(7, x)
		}
	}
	has(t, other, m)
	if read < 5000 {
		t.Errorf("%d: of little worth", read)
	}
}

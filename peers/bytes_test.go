package peers

import (
	"bytes"
	"math"
	"math/rand"
	"slices"
	"strings"
	"testing"

	"trug/api"
	"trug/wire"
)

// tryRead is the peers of bytes, with nothing behind them.
func tryRead(b []byte) (*Peers, api.Errno) {
	var p *Peers
	e := wire.Read(b, func(r *wire.Reader) { p = Get(r) })
	return p, e
}

// read is the peers of bytes that are some.
func read(t *testing.T, b []byte) *Peers {
	t.Helper()
	p, e := tryRead(b)
	if p == nil || e != api.OK {
		t.Fatalf("Get of %x: %v", b, e)
	}
	return p
}

// wantFault: bytes are no peers'.
func wantFault(t *testing.T, what string, b []byte, want api.Errno) {
	t.Helper()
	if p, e := tryRead(b); p != nil || e != want {
		t.Errorf("Get, %s: %x: %v %v, not %v", what, b, p, e, want)
	}
}

// some is models of peers at the edges of what may be.
func some() []*model {
	var list []*model
	for _, node := range []int{1, 2, 6, 11, 12} {
		var all []int
		for n := 1; n <= 12; n++ {
			if n != node {
				all = append(all, n)
			}
		}
		first, last := all[:1], all[10:]
		list = append(list, newModel(node),
			&model{node, map[int]stand{1: {1, first}, 12: {3, last}}},
			&model{node, map[int]stand{1: {2, nil}, 2: {2, first}, 5: {2, all}, 12: {2, last}}},
			&model{node, map[int]stand{1: {3, last}, 2: {1, all[5:6]}, 11: {1, last}, 12: {2, all[3:7]}}})
		every := newModel(node)
		for seller := 1; seller <= 12; seller++ {
			every.sellers[seller] = stand{2, all}
		}
		list = append(list, every)
	}
	return list
}

// TestPutKnown: P21.4, bytes that are known.
func TestPutKnown(t *testing.T) {
	known := func(p *Peers, want string) {
		t.Helper()
		if b := put(p); string(b) != want {
			t.Errorf("Put: %x, not %x", b, want)
		}
	}
	p, _ := start(t, 9)
	known(p, "\x09"+strings.Repeat("\x00", 24))
	p.Join(1, 12)
	p.Found(3)
	known(p, "\x09\x01\x01\x0c\x00\x00\x02\x00"+strings.Repeat("\x00", 18))
	p.Joined(1, 12, true)
	p.Asked(1, 2)
	p.Asked(3, 7)
	p.Leave(3)
	p.Join(12, 1)
	known(p, "\x09\x02\x02\x02\x0c\x00\x00\x03\x01\x07"+strings.Repeat("\x00", 16)+"\x01\x01\x01")
}

// TestThere: P21.4 and P2, peers go there and back, behind others, and with others behind them.
func TestThere(t *testing.T) {
	for _, m := range some() {
		p := read(t, m.raw())
		has(t, p, m)
		p.Put(nil) // nothing to write to
		w := wire.New().Num(300)
		p.Put(w)
		p.Put(w)
		w.Text([]byte("end"))
		e := wire.Read(w.Bytes(), func(r *wire.Reader) {
			r.Must(r.Num() == 300)
			has(t, Get(r), m)
			has(t, Get(r), m)
			r.Must(string(r.Text(3)) == "end")
		})
		if e != api.OK {
			t.Errorf("Read: %v", e)
		}
	}
}

// ahead is bytes of the node 5, and so many sellers of whom it is ready without peers.
func ahead(sellers int) []byte { return []byte("\x05" + strings.Repeat("\x02\x00", sellers)) }

// TestGetFaults: P21.4, bytes of no peers, a fault of the form, at whatever seller, whether the rest is there or missing.
func TestGetFaults(t *testing.T) {
	for _, n := range []uint64{0, 13, 14, 128, 1 << 32, 1<<32 + 1, 1 << 63, math.MaxUint64} {
		wantFault(t, "of no node", append(wire.New().Num(n).Bytes(), make([]byte, 24)...), api.ErrForm)
		wantFault(t, "of no node, cut", wire.New().Num(n).Bytes(), api.ErrForm)
	}
	wrong := map[string]string{
		"the state 0, with a peer":        "\x00\x01\x01",
		"the state 0, how many":           "\x00\x01",
		"it joins through nobody":         "\x01\x00",
		"it joins through two":            "\x01\x02\x01\x02",
		"it leaves, without a peer":       "\x03\x00",
		"it leaves, with two peers":       "\x03\x02\x01\x02",
		"it leaves, how many":             "\x03\x02",
		"the state 4":                     "\x04",
		"the state 4, with a peer":        "\x04\x01\x01",
		"a great state":                   "\x90\x80\x80\x80\x02",
		"it joins through its own":        "\x01\x01\x05",
		"it leaves, its own":              "\x03\x01\x05",
		"its own is a peer":               "\x02\x01\x05",
		"its own is a peer, among others": "\x02\x03\x04\x05\x06",
		"its own ahead of others":         "\x02\x02\x05",
		"it joins through no node":        "\x01\x01\x00",
		"no node is a peer":               "\x02\x01\x00",
		"no node leaves":                  "\x03\x01\x0d",
		"the node 13":                     "\x02\x02\x01\x0d",
		"a great node":                    "\x02\x01\x90\x80\x80\x80\x01",
		"twice one peer":                  "\x02\x02\x03\x03",
		"falling":                         "\x02\x02\x03\x02",
		"falling at last":                 "\x02\x03\x01\x03\x02",
		"twelve peers":                    "\x02\x0c",
		"many peers":                      "\x02\x90\x80\x80\x80\x00",
		"a digit of nought, state":        "\x80\x02\x00",
		"a digit of nought, how many":     "\x02\x80\x00",
		"a digit of nought, peer":         "\x02\x01\x80\x01",
	}
	for what, b := range wrong {
		for _, sellers := range []int{0, 1, 7, 11} {
			whole := append(ahead(sellers), b...)
			wantFault(t, what+", cut", whole, api.ErrForm)
			wantFault(t, what, append(whole, make([]byte, 2*(11-sellers))...), api.ErrForm)
			wantFault(t, what+", longer", append(whole, make([]byte, 40)...), api.ErrForm)
		}
	}
	wantFault(t, "a digit of nought, node", append([]byte("\x80\x05"), make([]byte, 24)...), api.ErrForm)
}

// TestCut: P21.4 and P2, cut anywhere they are nothing; what stands behind is left.
func TestCut(t *testing.T) {
	for _, m := range some() {
		b := m.raw()
		for n := range b {
			wantFault(t, "cut", b[:n:n], api.ErrShort)
		}
		if _, e := tryRead(append(slices.Clone(b), 0)); e != api.ErrLong {
			t.Errorf("longer: %v", e)
		}
	}
	wantFault(t, "nil", nil, api.ErrShort)
}

// TestGetNil: P1, readers that read nothing.
func TestGetNil(t *testing.T) {
	var ended *wire.Reader
	if e := wire.Read(some()[1].raw(), func(r *wire.Reader) { Get(r); ended = r }); e != api.OK {
		t.Fatalf("Read: %v", e)
	}
	for _, r := range []*wire.Reader{nil, {}, ended} {
		p := Get(r)
		is(t, "Found", p.Found(1), api.ErrNil)
		if p != nil {
			t.Errorf("Get: %v", p)
		}
	}
}

// TestTurned: P21.4 and P2, whatever is read, written again, is the same, and stands as the words say.
func TestTurned(t *testing.T) {
	r := rand.New(rand.NewSource(2))
	list := some()
	whole := 0
	for range 200000 {
		b := list[r.Intn(len(list))].raw()
		for range 1 + r.Intn(3) {
			b[r.Intn(len(b))] = []byte{0, 1, 2, 3, 12, 13, 128, byte(r.Intn(256))}[r.Intn(8)]
		}
		p, e := tryRead(b)
		if e == api.ErrLong {
			b = b[:min(len(b), len(put(p)))] // what stands ahead of the rest
		} else if e != api.OK {
			wantFault(t, "turned", b, e)
			continue
		}
		whole++
		if again := put(p); !bytes.Equal(again, b) {
			t.Fatalf("%x, written again: %x", b, again)
		}
		for seller := 1; seller <= 12; seller++ {
			n, state := len(p.Of(seller)), p.State(seller)
			if state == 0 && n != 0 || state%2 == 1 && n != 1 || slices.Contains(p.Of(seller), p.Node()) {
				t.Fatalf("%x: of the seller %d: %d %v", b, seller, state, p.Of(seller))
			}
		}
	}
	if whole < 10000 {
		t.Errorf("just %d are whole: of little worth", whole)
	}
}

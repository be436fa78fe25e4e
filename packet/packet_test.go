package packet

import (
	"bytes"
	"math"
	"math/rand"
	"slices"
	"testing"

	"trug/api"
	"trug/crc"
	"trug/wire"
)

// head is what the document lets stand ahead of a packet's text, whether it may be or not.
func head(ack, from, to, seq uint64) []byte {
	return wire.New().Num(ack).Num(from).Num(to).Num(seq).Bytes()
}

// sealed is bytes, with their sum behind them.
func sealed(b []byte) []byte {
	return append(slices.Clone(b), wire.New().Num(uint64(crc.Of(b))).Bytes()...)
}

// raw is the bytes that the document gives a packet, whether it may be or not.
func raw(p Packet) []byte {
	if p.Ack {
		return sealed(head(1, uint64(p.From), uint64(p.To), p.Seq))
	}
	return sealed(append(head(0, uint64(p.From), uint64(p.To), p.Seq), wire.New().Text(p.Data).Bytes()...))
}

// text is a text of so many bytes.
func text(n int) []byte { return bytes.Repeat([]byte{0x80}, n) }

// edges is packets that may be, at the edges of what may.
func edges() []Packet {
	return []Packet{
		{Ack: true, From: 1, To: 2, Seq: 1},
		{Ack: true, From: 2, To: 1, Seq: api.MaxTime},
		{Ack: true, From: 12, To: 11, Seq: 128, Data: []byte{}},
		{From: 1, To: 12, Seq: 1, Data: text(1)},
		{From: 12, To: 1, Seq: api.MaxTime, Data: text(api.MaxRecord)},
		{From: 7, To: 8, Seq: 127, Data: []byte{0}},
		{From: 7, To: 6, Seq: 3, Data: text(127)},
		{From: 7, To: 6, Seq: 3, Data: text(128)},
	}
}

// but is a packet that is changed.
func but(p Packet, change func(p *Packet)) Packet {
	change(&p)
	return p
}

// noPackets is packets of which just one thing may not be.
func noPackets() []Packet {
	var list []Packet
	for _, ok := range []Packet{{From: 3, To: 5, Seq: 7, Data: []byte("a")}, {Ack: true, From: 3, To: 5, Seq: 7}} {
		for _, n := range []int{0, -1, 13, 14, math.MinInt, math.MaxInt, 1<<32 + 1, -3} {
			list = append(list, but(ok, func(p *Packet) { p.From = n }), but(ok, func(p *Packet) { p.To = n }))
		}
		for _, n := range []uint64{0, api.MaxTime + 1, 1 << 63, math.MaxUint64} {
			list = append(list, but(ok, func(p *Packet) { p.Seq = n }))
		}
		for _, n := range []int{1, 5, 12} {
			list = append(list, but(ok, func(p *Packet) { p.From, p.To = n, n }))
		}
		for _, n := range []int{api.MaxRecord + 1, api.MaxText, 1 << 20} {
			list = append(list, but(ok, func(p *Packet) { p.Data = text(n) }))
		}
		list = append(list, but(ok, func(p *Packet) { p.Ack = !p.Ack }))
	}
	ok := Packet{From: 3, To: 5, Seq: 7}
	return append(list, ok, but(ok, func(p *Packet) { p.Data = []byte{} }), Packet{}, Packet{Ack: true})
}

// some is packets that may be, of few numbers, so that they are often alike, and of many.
func some(r *rand.Rand, n int) []Packet {
	list := edges()
	for range n {
		most := []int{2, 3, 12}[r.Intn(3)]
		p := Packet{Ack: r.Intn(2) == 0, From: 1 + r.Intn(most), Seq: 1 + uint64(r.Intn(2))}
		p.To = (p.From+r.Intn(most-1))%most + 1
		if r.Intn(3) == 0 {
			p.Seq = 1 + uint64(r.Int63n(api.MaxTime))
		}
		if !p.Ack {
			p.Data = make([]byte, 1+r.Intn([]int{1, 3, 300}[r.Intn(3)]))
			r.Read(p.Data)
			p.Data[0] &= 1
		}
		list = append(list, p)
	}
	return list
}

// wantNone: bytes of which Read tells an error, and nothing else.
func wantNone(t *testing.T, what string, b []byte, want api.Errno) {
	t.Helper()
	if p, e := Read(b); e != want || !Same(p, Packet{}) || p.Data != nil {
		t.Errorf("Read, %s: %.60x: %v %v, not %v", what, b, p, e, want)
	}
}

// TestRight: P15.1, which packets may be.
func TestRight(t *testing.T) {
	for _, p := range some(rand.New(rand.NewSource(1)), 300) {
		if !Right(p) {
			t.Errorf("Right(%.60v): false", p)
		}
	}
	for _, p := range noPackets() {
		if Right(p) {
			t.Errorf("Right(%.60v): true", p)
		}
	}
}

// TestSame: P15.1, which packets are equal, whether they may be or not.
func TestSame(t *testing.T) {
	list := append(some(rand.New(rand.NewSource(2)), 150), noPackets()...)
	same := 0
	for i, a := range list {
		for j, b := range list {
			want := a.Ack == b.Ack && a.From == b.From && a.To == b.To && a.Seq == b.Seq && string(a.Data) == string(b.Data)
			if Same(a, b) != want {
				t.Errorf("Same(%.60v, %.60v): %t", a, b, !want)
			}
			if want && i != j {
				same++
			}
		}
	}
	if same < 50 {
		t.Errorf("just %d are equal: of little worth", same)
	}
	ok := Packet{From: 3, To: 5, Seq: 7, Data: []byte("ab")}
	for _, p := range []Packet{
		but(ok, func(p *Packet) { p.Ack = true }),
		but(ok, func(p *Packet) { p.From = 4 }),
		but(ok, func(p *Packet) { p.From = 1<<32 + 3 }),
		but(ok, func(p *Packet) { p.To = 6 }),
		but(ok, func(p *Packet) { p.From, p.To = 5, 3 }),
		but(ok, func(p *Packet) { p.Seq = 8 }),
		but(ok, func(p *Packet) { p.Seq = 1<<63 + 7 }),
		but(ok, func(p *Packet) { p.Data = nil }),
		but(ok, func(p *Packet) { p.Data = []byte("a") }),
		but(ok, func(p *Packet) { p.Data = []byte("abc") }),
		but(ok, func(p *Packet) { p.Data = []byte("aB") }),
	} {
		if Same(ok, p) || Same(p, ok) {
			t.Errorf("Same(%v, %v): true", ok, p)
		}
	}
	none, empty := Packet{Ack: true, From: 1, To: 2, Seq: 1}, Packet{Ack: true, From: 1, To: 2, Seq: 1, Data: []byte{}}
	if !Same(none, empty) || !Same(empty, none) || !Same(Packet{}, Packet{Data: []byte{}}) {
		t.Errorf("Same: a list without elements may be nil or empty")
	}
}

// TestKnown: P15.1, packets whose bytes are known.
func TestKnown(t *testing.T) {
	for _, c := range []struct {
		p Packet
		b string
	}{
		{Packet{Ack: true, From: 1, To: 2, Seq: 3}, "\x01\x01\x02\x03\x84\xc7\xfe\xd8\x62"}, // the document's example
		{Packet{From: 1, To: 2, Seq: 3, Data: []byte("x")}, "\x00\x01\x02\x03\x01\x78\x82\xb2\xfb\x91\x53"},
		{Packet{Ack: true, From: 12, To: 11, Seq: api.MaxTime}, "\x01\x0c\x0b\xa0\x80\x80\x80\x80\x00\x89\x98\x8d\xb3\x46"},
		{Packet{From: 12, To: 1, Seq: 300, Data: []byte("ab\x00")}, "\x00\x0c\x01\x82\x2c\x03ab\x00\x89\xc6\xc2\x8a\x72"},
		{Packet{Ack: true, From: 2, To: 1, Seq: 200, Data: []byte{}}, "\x01\x02\x01\x81\x48\xf1\xec\xc6\x3b"}, // a sum of four digits
	} {
		if b, e := Write(c.p); e != api.OK || string(b) != c.b {
			t.Errorf("Write(%v): %x %v, not %x", c.p, b, e, c.b)
		}
		if p, e := Read([]byte(c.b)); e != api.OK || !Same(p, c.p) {
			t.Errorf("Read(%x): %v %v, not %v", c.b, p, e, c.p)
		}
	}
}

// TestThere: P15.1, P15.2 and P2, packets go there and back, and what is handed in is not changed.
func TestThere(t *testing.T) {
	for _, p := range some(rand.New(rand.NewSource(3)), 3000) {
		was := p
		was.Data = slices.Clone(p.Data)
		b, e := Write(p)
		if e != api.OK || !bytes.Equal(b, raw(was)) || !Same(p, was) {
			t.Fatalf("Write(%.60v): %.60x %v, not %.60x", was, b, e, raw(was))
		}
		q, e := Read(b)
		if e != api.OK || !Same(p, q) {
			t.Fatalf("Read(%.60x): %.60v %v, not %.60v", b, q, e, p)
		}
		if !bytes.Equal(b, raw(was)) {
			t.Fatalf("Read changes its bytes: %.60x", b)
		}
	}
}

// TestWriteWrong: P15.1 and P1, what may not be is not written; nor is it read, whatever the sum.
func TestWriteWrong(t *testing.T) {
	for _, p := range noPackets() {
		if b, e := Write(p); e != api.ErrForm || len(b) != 0 {
			t.Errorf("Write(%.60v): %.60x %v", p, b, e)
		}
		if p.Ack && len(p.Data) > 0 {
			continue // it has no bytes that tell of this
		}
		b := raw(p)
		wantNone(t, "may not be", b, api.ErrForm)
		b[len(b)-1] ^= 1
		wantNone(t, "may not be, and another sum", b, api.ErrForm)
	}
}

// TestCut: P15.2 and P2, cut anywhere, or longer, the bytes are none.
func TestCut(t *testing.T) {
	for _, p := range some(rand.New(rand.NewSource(4)), 300) {
		b := raw(p)
		for n := range b {
			wantNone(t, "cut", b[:n:n], api.ErrForm)
			if n > 0 {
				wantNone(t, "cut ahead", b[n:], readFault(b[n:]))
			}
		}
		wantNone(t, "longer", append(slices.Clone(b), 0), api.ErrForm)
		wantNone(t, "twice", slices.Repeat(b, 2), api.ErrForm)
	}
	wantNone(t, "nil", nil, api.ErrForm)
	wantNone(t, "empty", []byte{}, api.ErrForm)
}

// readFault is what Read tells of bytes, by the words of the document.
func readFault(b []byte) api.Errno {
	var p Packet
	var sum uint64
	at := 0
	e := wire.Read(b, func(r *wire.Reader) {
		ack := r.Num()
		p = Packet{Ack: ack == 1, From: int(r.Num()), To: int(r.Num()), Seq: r.Num()}
		if !p.Ack {
			p.Data = r.Text(len(b))
		}
		sum = r.Num()
		r.Must(ack <= 1 && Right(p))
		at = len(b) - len(wire.New().Num(sum).Bytes())
	})
	switch {
	case e != api.OK || sum > math.MaxUint32:
		return api.ErrForm
	case sum != uint64(crc.Of(b[:at])):
		return api.ErrSum
	}
	return api.OK
}

// TestSum: P15.1, another sum; one above 2^32 - 1 is none.
func TestSum(t *testing.T) {
	for _, p := range some(rand.New(rand.NewSource(5)), 100) {
		b := raw(p)
		body := wire.New()
		right := uint64(0)
		wire.Read(b, func(r *wire.Reader) {
			body.Num(r.Num()).Num(r.Num()).Num(r.Num()).Num(r.Num())
			if !p.Ack {
				body.Text(r.Text(api.MaxRecord))
			}
			right = r.Num()
		})
		with := func(sum uint64) []byte { return append(body.Bytes(), wire.New().Num(sum).Bytes()...) }
		for bit := range 32 {
			wantNone(t, "a bit of the sum", with(right^1<<bit), api.ErrSum)
		}
		for _, sum := range []uint64{0, 1, math.MaxUint32, right + 1, right - 1, ^right & math.MaxUint32} {
			wantNone(t, "another sum", with(sum), api.ErrSum)
		}
		for _, sum := range []uint64{1 << 32, right + 1<<32, right | 1<<63, math.MaxUint64} {
			wantNone(t, "no sum", with(sum), api.ErrForm)
		}
		wantNone(t, "a digit of nought ahead", append(body.Bytes(), append([]byte{0x80}, wire.New().Num(right).Bytes()...)...), api.ErrForm)
		wantNone(t, "no sum at all", body.Bytes(), api.ErrForm)
	}
}

// TestSumOfAll: P15.1, each thing ahead of the sum counts for it.
func TestSumOfAll(t *testing.T) {
	ok := Packet{From: 3, To: 5, Seq: 7, Data: []byte("ab")}
	sum := crc.Of(append(head(0, 3, 5, 7), 2, 'a', 'b'))
	for _, p := range []Packet{
		but(ok, func(p *Packet) { p.From = 4 }),
		but(ok, func(p *Packet) { p.To = 6 }),
		but(ok, func(p *Packet) { p.From, p.To = 5, 3 }),
		but(ok, func(p *Packet) { p.Seq = 8 }),
		but(ok, func(p *Packet) { p.Data = []byte("ba") }),
		but(ok, func(p *Packet) { p.Data = []byte("a") }),
		but(ok, func(p *Packet) { p.Data = []byte("abb") }),
	} {
		b := append(head(0, uint64(p.From), uint64(p.To), p.Seq), wire.New().Text(p.Data).Num(uint64(sum)).Bytes()...)
		wantNone(t, "the sum of another packet", b, api.ErrSum)
	}
	b := append(head(1, 3, 5, 7), wire.New().Num(uint64(crc.Of(head(0, 3, 5, 7)))).Bytes()...)
	wantNone(t, "the sum of no Ack", b, api.ErrSum)
}

// TestForm: P15.1, bytes of no packet, with a sum that goes with them, and with another one.
func TestForm(t *testing.T) {
	data := func(n uint64, b string) []byte { return append(wire.New().Num(n).Bytes(), b...) }
	for _, body := range [][]byte{
		append(head(2, 3, 5, 7), data(1, "a")...), head(2, 3, 5, 7), head(1<<32+1, 3, 5, 7), head(math.MaxUint64, 3, 5, 7), append(head(1<<32, 3, 5, 7), data(1, "a")...),
		head(1, 1<<32+3, 5, 7), head(1, 3, 1<<32+5, 7), head(1, 3, 5, 1<<40+1), head(1, 3, 5, math.MaxUint64), head(1, math.MaxUint64, 5, 7), head(1, 3, 3, 7), head(1, 3, 13, 7), head(1, 0, 5, 7),
		append(head(1, 3, 5, 7), data(1, "a")...), append(head(1, 3, 5, 7), data(0, "")...), append(head(1, 3, 5, 7), data(20, "")...), // an Ack with a text
		head(0, 3, 5, 7), append(head(0, 3, 5, 7), data(0, "")...), append(head(0, 3, 5, 7), data(1, "ab")...), append(head(0, 3, 5, 7), data(20, "a")...),
		append(head(0, 3, 5, 7), data(api.MaxRecord+1, string(text(api.MaxRecord+1)))...),
		append(head(0, 3, 5, 7), data(math.MaxUint64, "a")...), append(head(0, 3, 5, 7), data(1<<32+1, "a")...),
		append([]byte{0x80}, head(1, 3, 5, 7)...), {1, 0x80, 3, 5, 7}, {1, 3, 0x80, 5, 7}, {1, 3, 5, 0x80, 7}, {0, 3, 5, 7, 0x80, 1, 'a'}, // digits of nought ahead
		{}, {0}, {1}, {1, 3}, {1, 3, 5},
	} {
		b := sealed(body)
		if want := readFault(b); want != api.ErrForm {
			t.Fatalf("%.60x: of little worth", b)
		}
		wantNone(t, "no packet", b, api.ErrForm)
		b[len(b)-1] ^= 2
		wantNone(t, "no packet, and another sum", b, api.ErrForm)
	}
}

// TestTurned: P15.1 and P2, bytes of which some are turned are told apart by what stands there; what is read, written again, is the same.
func TestTurned(t *testing.T) {
	r := rand.New(rand.NewSource(6))
	list := some(r, 200)
	told := map[api.Errno]int{}
	for range 100000 {
		b := raw(list[r.Intn(len(list))])
		for range r.Intn(4) {
			i := r.Intn(min(len(b), 12))
			if r.Intn(2) == 0 {
				i = len(b) - 1 - i
			}
			b[i] = []byte{0, 1, 2, 12, 128, b[i] ^ 1<<r.Intn(8), byte(r.Intn(256))}[r.Intn(7)]
		}
		want := readFault(b)
		p, e := Read(b)
		if e != want {
			t.Fatalf("Read(%.60x): %v, not %v", b, e, want)
		}
		told[e]++
		if e != api.OK {
			wantNone(t, "turned", b, e)
		} else if again, e := Write(p); e != api.OK || !bytes.Equal(again, b) {
			t.Fatalf("%.60x, written again: %.60x %v", b, again, e)
		}
	}
	if min(told[api.OK], told[api.ErrForm], told[api.ErrSum]) < 10000 || len(told) != 3 {
		t.Errorf("just %v: of little worth", told)
	}
}

// TestOwnMemory: what is handed out is new memory, and what lies behind a list's length plays no part.
func TestOwnMemory(t *testing.T) {
	all := []byte("abcdef")
	p := Packet{From: 1, To: 2, Seq: 3, Data: all[1:3]}
	b, _ := Write(p)
	was := slices.Clone(b)
	q, _ := Read(b)
	_ = append(q.Data, 'x')
	q.Data[0] = 'x'
	if !bytes.Equal(b, was) {
		t.Errorf("a packet's text stands in the bytes: %x", b)
	}
	q, _ = Read(b)
	for i := range b {
		b[i] = 9
	}
	if string(q.Data) != "bc" {
		t.Errorf("the bytes stand in the packet's text: %q", q.Data)
	}
	_ = append(b, 9, 9, 9)
	if string(all) != "abcdef" {
		t.Errorf("changed: %q", all)
	}
	if !Same(p, Packet{From: 1, To: 2, Seq: 3, Data: []byte("bc")}) {
		t.Errorf("Same: what lies behind plays a part")
	}
	if again, _ := Write(p); !bytes.Equal(again, was) {
		t.Errorf("Write again: %x", again)
	}
}

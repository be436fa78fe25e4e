package link

import (
	"bytes"
	"math"
	"math/rand"
	"slices"
	"strconv"
	"testing"

	"trug/api"
	"trug/wire"
)

// bad is links to which no call may do anything.
func bad() []*Link { return []*Link{nil, {}, new(Link)} }

// text is a text of so many bytes.
func text(n int) []byte { return bytes.Repeat([]byte{'t'}, n) }

// has asks what a link has: the texts that were not acknowledged, and the numbers of the next ones.
func has(t *testing.T, l *Link, next, expect uint64, texts ...string) {
	t.Helper()
	if l.Next() != next || l.Expect() != expect {
		t.Fatalf("Next %d, Expect %d; not %d, %d", l.Next(), l.Expect(), next, expect)
	}
	q := l.Queue()
	if len(q) != len(texts) {
		t.Fatalf("Queue: %d texts, not %d", len(q), len(texts))
	}
	for i, x := range q {
		if x.Seq != next-uint64(len(q)-i) || string(x.Data) != texts[i] {
			t.Fatalf("Queue: %d %.20q at %d of %d, next %d; not %.20q", x.Seq, x.Data, i, len(q), next, texts[i])
		}
	}
}

// sends asks for a text that is sent.
func sends(t *testing.T, l *Link, b string, want uint64) {
	t.Helper()
	if n, e := l.Send([]byte(b)); n != want || e != api.OK {
		t.Fatalf("Send(%.20q): %d %v, not %d", b, n, e, want)
	}
}

// refuses asks for a text that is not sent.
func refuses(t *testing.T, l *Link, b []byte, want api.Errno) {
	t.Helper()
	if n, e := l.Send(b); n != 0 || e != want {
		t.Fatalf("Send of %d bytes: %d %v, not %v", len(b), n, e, want)
	}
}

// acks asks how many texts are acknowledged.
func acks(t *testing.T, l *Link, seq uint64, want int, e api.Errno) {
	t.Helper()
	if n, f := l.Acked(seq); n != want || f != e {
		t.Fatalf("Acked(%d): %d %v, not %d %v", seq, n, f, want, e)
	}
}

// takes asks whether a text is taken.
func takes(t *testing.T, l *Link, seq uint64, want bool, e api.Errno) {
	t.Helper()
	if is, f := l.Take(seq); is != want || f != e {
		t.Fatalf("Take(%d): %t %v, not %t %v", seq, is, f, want, e)
	}
}

// at is a link with these numbers and texts, as its bytes tell.
func at(t *testing.T, next, expect uint64, texts ...string) *Link {
	t.Helper()
	l, e := read(raw(next, expect, texts...))
	if e != api.OK || l == nil {
		t.Fatalf("Get: %v %v", l, e)
	}
	return l
}

// TestNew: P16.1, a link to which nothing happened.
func TestNew(t *testing.T) {
	l := New()
	has(t, l, 1, 1)
	if len(l.Queue()) != 0 {
		t.Errorf("Queue: %v", l.Queue())
	}
	other := New()
	sends(t, l, "a", 1)
	takes(t, l, 1, true, api.OK)
	has(t, other, 1, 1) // another one
}

// TestNil: P16.1, P16.2 and P1, of nil, or one that no call made.
func TestNil(t *testing.T) {
	for _, l := range bad() {
		for _, b := range [][]byte{nil, []byte("a"), text(api.MaxRecord + 1)} {
			refuses(t, l, b, api.ErrNil)
		}
		for _, n := range []uint64{0, 1, 2, api.MaxTime + 1, math.MaxUint64} {
			acks(t, l, n, 0, api.ErrNil)
			takes(t, l, n, false, api.ErrNil)
		}
		has(t, l, 0, 0)
		l.Put(nil)
		w := wire.New()
		l.Put(w)
		if b := w.Bytes(); len(b) != 0 {
			t.Errorf("Put: %x", b)
		}
	}
}

// TestSend: P16.1, texts are sent, one behind the other.
func TestSend(t *testing.T) {
	l := New()
	greatest := string(text(api.MaxRecord))
	for i, b := range []string{"a", "\x00", greatest, "a"} {
		sends(t, l, b, uint64(i+1))
	}
	has(t, l, 5, 1, "a", "\x00", greatest, "a")
}

// TestSendWrong: P16.1, what may not be a text, ahead of what there is no room for; nothing has changed.
func TestSendWrong(t *testing.T) {
	none := [][]byte{nil, {}, text(api.MaxRecord + 1), text(api.MaxText), text(1 << 20)}
	l := New()
	sends(t, l, "a", 1)
	for _, b := range none {
		refuses(t, l, b, api.ErrForm)
		refuses(t, at(t, api.MaxTime+1, 1, "a"), b, api.ErrForm)
	}
	has(t, l, 2, 1, "a")
	var all []string
	for n := len(all) + 1; n <= api.MaxQueue; n++ {
		all = append(all, strconv.Itoa(n))
	}
	l = at(t, 1001, 7, all...)
	for _, b := range none {
		refuses(t, l, b, api.ErrForm)
	}
	refuses(t, l, []byte("a"), api.ErrFull)
	has(t, l, 1001, 7, all...)
}

// TestFull: P16.1, at most MaxQueue are not acknowledged.
func TestFull(t *testing.T) {
	l := New()
	var all []string
	for n := 1; n <= api.MaxQueue; n++ {
		all = append(all, strconv.Itoa(n))
		sends(t, l, all[n-1], uint64(n))
	}
	has(t, l, 251, 1, all...)
	refuses(t, l, []byte("251"), api.ErrFull)
	takes(t, l, 1, true, api.OK) // that plays no part
	refuses(t, l, []byte("251"), api.ErrFull)
	has(t, l, 251, 2, all...)
	acks(t, l, 1, 1, api.OK)
	sends(t, l, "251", 251)
	refuses(t, l, []byte("252"), api.ErrFull)
	has(t, l, 252, 2, append(all[1:], "251")...)
	acks(t, l, 251, 250, api.OK)
	sends(t, l, "252", 252)
	has(t, l, 253, 2, "252")
}

// TestLast: P16.1 and P16.2, no number is above MaxTime.
func TestLast(t *testing.T) {
	l := at(t, api.MaxTime-1, api.MaxTime-1, "a")
	sends(t, l, "b", api.MaxTime-1)
	sends(t, l, "c", api.MaxTime)
	for range 3 {
		refuses(t, l, []byte("d"), api.ErrFull)
	}
	has(t, l, api.MaxTime+1, api.MaxTime-1, "a", "b", "c")
	takes(t, l, api.MaxTime-1, true, api.OK)
	takes(t, l, api.MaxTime+1, false, api.ErrAway)
	takes(t, l, api.MaxTime, true, api.OK)
	for range 3 {
		takes(t, l, api.MaxTime+1, false, api.ErrFull)
		takes(t, l, api.MaxTime, false, api.OK)
		takes(t, l, api.MaxTime+2, false, api.ErrAway)
		takes(t, l, math.MaxUint64, false, api.ErrAway)
	}
	has(t, l, api.MaxTime+1, api.MaxTime+1, "a", "b", "c")
	acks(t, l, api.MaxTime+1, 0, api.ErrAway)
	acks(t, l, api.MaxTime, 3, api.OK)
	refuses(t, l, []byte("d"), api.ErrFull) // there is room, but no number
	has(t, l, api.MaxTime+1, api.MaxTime+1)
}

// TestAcked: P16.2, all texts up to a number are acknowledged, each once.
func TestAcked(t *testing.T) {
	l := New()
	acks(t, l, 0, 0, api.OK)
	acks(t, l, 1, 0, api.ErrAway)
	for i, b := range []string{"a", "b", "c", "d", "e"} {
		sends(t, l, b, uint64(i+1))
	}
	for _, n := range []uint64{6, 7, api.MaxTime, api.MaxTime + 1, 1 << 63, math.MaxUint64} {
		acks(t, l, n, 0, api.ErrAway)
	}
	acks(t, l, 0, 0, api.OK)
	has(t, l, 6, 1, "a", "b", "c", "d", "e")
	acks(t, l, 1, 1, api.OK)
	acks(t, l, 1, 0, api.OK)
	has(t, l, 6, 1, "b", "c", "d", "e")
	acks(t, l, 4, 3, api.OK)
	for n := range uint64(5) {
		acks(t, l, n, 0, api.OK)
	}
	has(t, l, 6, 1, "e")
	acks(t, l, 5, 1, api.OK)
	acks(t, l, 5, 0, api.OK)
	acks(t, l, 6, 0, api.ErrAway)
	has(t, l, 6, 1)
	sends(t, l, "f", 6)
	acks(t, l, 5, 0, api.OK)
	has(t, l, 7, 1, "f")
}

// TestExample: the document's example.
func TestExample(t *testing.T) {
	l := New()
	sends(t, l, "a", 1)
	sends(t, l, "b", 2)
	acks(t, l, 1, 1, api.OK)
	has(t, l, 3, 1, "b")
}

// TestTake: P16.2, each text is taken once, in order.
func TestTake(t *testing.T) {
	l := New()
	sends(t, l, "a", 1)
	takes(t, l, 0, false, api.OK)
	for n := uint64(1); n < 300; n++ {
		for _, m := range []uint64{n + 1, n + 2, n + 1000, 1 << 40, 1<<40 + 1, 1<<63 + n, math.MaxUint64} {
			takes(t, l, m, false, api.ErrAway)
		}
		takes(t, l, n, true, api.OK)
		takes(t, l, n, false, api.OK)
		takes(t, l, n/2, false, api.OK)
		takes(t, l, 0, false, api.OK)
		has(t, l, 2, n+1, "a")
	}
}

// model is a link by the words of the document.
type model struct {
	next, expect uint64
	texts        []string
}

// acked is how many texts were not acknowledged, up to a number.
func (m *model) acked(seq uint64) int {
	n := 0
	for len(m.texts) > 0 && m.next-uint64(len(m.texts)) <= seq {
		m.texts = m.texts[1:]
		n++
	}
	return n
}

// step does something to a link, and to its model.
func (m *model) step(t *testing.T, r *rand.Rand, l *Link) {
	t.Helper()
	near := func(n uint64) uint64 { return n - min(n, uint64(r.Intn(4))) + uint64(r.Intn(3)) }
	switch n := r.Intn(8); {
	case n < 4:
		b := strconv.Itoa(r.Intn(1000))
		if len(m.texts) == api.MaxQueue || m.next > api.MaxTime {
			refuses(t, l, []byte(b), api.ErrFull)
			return
		}
		sends(t, l, b, m.next)
		m.texts = append(m.texts, b)
		m.next++
	case n == 4:
		seq := near(m.next - uint64(r.Intn(len(m.texts)+1)))
		if seq >= m.next {
			acks(t, l, seq, 0, api.ErrAway)
			return
		}
		acks(t, l, seq, m.acked(seq), api.OK)
	default:
		seq := near(m.expect)
		switch {
		case seq < m.expect:
			takes(t, l, seq, false, api.OK)
		case seq > m.expect:
			takes(t, l, seq, false, api.ErrAway)
		case seq > api.MaxTime:
			takes(t, l, seq, false, api.ErrFull)
		default:
			takes(t, l, seq, true, api.OK)
			m.expect++
		}
	}
}

// TestAny: P16.1 to P16.3, whatever is done to a link, also to one that goes there and back on the way.
func TestAny(t *testing.T) {
	r := rand.New(rand.NewSource(1))
	longest := 0
	for range 300 {
		l := New()
		m := &model{next: 1, expect: 1}
		if r.Intn(3) == 0 {
			m = &model{next: api.MaxTime - uint64(r.Intn(200)), expect: api.MaxTime - uint64(r.Intn(200))}
			l = at(t, m.next, m.expect)
		}
		for range r.Intn(600) {
			m.step(t, r, l)
			has(t, l, m.next, m.expect, m.texts...)
			longest = max(longest, len(m.texts))
			if r.Intn(50) == 0 {
				l = goesThere(t, l)
			}
		}
	}
	if longest < 20 {
		t.Errorf("just %d texts wait: of little worth", longest)
	}
}

// TestOwnMemory: what is handed in is neither kept nor changed; what is handed out is new memory.
func TestOwnMemory(t *testing.T) {
	l := New()
	all := []byte("abcdef")
	l.Send(all[1:3])
	l.Send(all[2:4])
	if string(all) != "abcdef" {
		t.Errorf("changed: %q", all)
	}
	for i := range all {
		all[i] = 'x'
	}
	has(t, l, 3, 1, "bc", "cd")
	q := l.Queue()
	_ = append(q[0].Data, 'y')
	_ = append(q[:1], Item{9, nil})
	q[0].Data[0], q[1].Seq = 'y', 7
	has(t, l, 3, 1, "bc", "cd")
	if q := l.Queue(); cap(q) > len(q) && q[:cap(q)][len(q)].Data != nil {
		t.Errorf("Queue hands out what lies behind: %v", q[:cap(q)])
	}
	w := wire.New()
	l.Put(w)
	b := w.Bytes()
	l, _ = read(b)
	for i := range b {
		b[i] = 'z'
	}
	has(t, l, 3, 1, "bc", "cd")
}

// TestCopy: a copy of a link, and what was handed out, stay as they are, whatever happens to the link.
func TestCopy(t *testing.T) {
	for n := range 12 {
		l := New()
		var texts []string
		for i := range n {
			texts = append(texts, strconv.Itoa(i))
			sends(t, l, texts[i], uint64(i+1))
		}
		whole := *l
		acks(t, l, uint64(n/2), n/2, api.OK)
		has(t, &whole, uint64(n+1), 1, texts...)
		texts = texts[n/2:]
		c := *l
		other := goesThere(t, l)
		d := *other
		q := l.Queue()
		for i, x := range []*Link{l, &c, other, &d} {
			sends(t, x, "own"+strconv.Itoa(i), uint64(n+1))
			takes(t, x, 1, true, api.OK)
		}
		for i, x := range []*Link{l, &c, other, &d} {
			has(t, x, uint64(n+2), 2, append(slices.Clone(texts), "own"+strconv.Itoa(i))...)
		}
		for i := range len(texts) + 1 {
			acks(t, l, uint64(n/2+1+i), 1, api.OK)
			has(t, &c, uint64(n+2), 2, append(slices.Clone(texts), "own1")...)
		}
		has(t, l, uint64(n+2), 2)
		for i, x := range q {
			if string(x.Data) != texts[i] {
				t.Fatalf("Queue, a while ago: %q", x.Data)
			}
		}
	}
}

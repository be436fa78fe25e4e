package disk

import (
	"bytes"
	"math"
	"math/rand"
	"slices"
	"testing"

	"trug/api"
)

// of is a disk of so many bytes.
func of(t *testing.T, n int) *Disk {
	t.Helper()
	d, e := New(n)
	if e != api.OK || d == nil {
		t.Fatalf("New(%d): %v", n, e)
	}
	return d
}

// writes asks for a write that is taken.
func writes(t *testing.T, d *Disk, at int, b string) {
	t.Helper()
	if e := d.Write(at, []byte(b)); e != api.OK {
		t.Fatalf("Write(%d, %q): %v", at, b, e)
	}
}

// all is all that is read of a disk.
func all(t *testing.T, d *Disk) []byte {
	t.Helper()
	b, e := d.Read(0, d.Size())
	if e != api.OK || len(b) != d.Size() {
		t.Fatalf("Read: %d bytes, %v", len(b), e)
	}
	return b
}

// stands asks what is read somewhere, and how many bytes wait.
func stands(t *testing.T, d *Disk, at int, want string, waits int) {
	t.Helper()
	if b, e := d.Read(at, len(want)); e != api.OK || string(b) != want {
		t.Errorf("Read(%d, %d): %q %v, want %q", at, len(want), b, e, want)
	}
	if n := d.Waits(); n != waits {
		t.Errorf("Waits: %d, want %d", n, waits)
	}
}

// counts asks for the counts.
func counts(t *testing.T, d *Disk, flushes, written int) {
	t.Helper()
	if f, w := d.Counts(); f != flushes || w != written {
		t.Errorf("Counts: %d %d, want %d %d", f, w, flushes, written)
	}
}

// TestNew: P12.1, how many bytes a disk may have; all are noughts at first.
func TestNew(t *testing.T) {
	for _, n := range []int{64, 65, 1000, 262143, 262144} {
		d := of(t, n)
		if d.Size() != n {
			t.Errorf("Size: %d, want %d", d.Size(), n)
		}
		stands(t, d, 0, string(make([]byte, n)), 0)
		counts(t, d, 0, 0)
	}
	for _, n := range []int{63, 1, 0, -1, -64, math.MinInt, 262145, math.MaxInt, 1<<32 + 64} {
		if d, e := New(n); d != nil || e != api.ErrArg {
			t.Errorf("New(%d): %v", n, e)
		}
	}
}

// TestNil: P12.1 and P1, of nil, and of one that no call made.
func TestNil(t *testing.T) {
	for _, d := range []*Disk{nil, {}} {
		for _, n := range []int{0, 1, -1, math.MaxInt, math.MinInt} {
			if e := d.Write(n, []byte("a")); e != api.ErrNil {
				t.Errorf("Write: %v", e)
			}
			if e := d.Write(n, nil); e != api.ErrNil {
				t.Errorf("Write of nothing: %v", e)
			}
			if b, e := d.Read(n, n); len(b) != 0 || e != api.ErrNil {
				t.Errorf("Read: %q %v", b, e)
			}
			if e := d.Crash(n); e != api.ErrNil {
				t.Errorf("Crash: %v", e)
			}
		}
		if e := d.Flush(); e != api.ErrNil {
			t.Errorf("Flush: %v", e)
		}
		if d.Size() != 0 || d.Waits() != 0 {
			t.Errorf("of nil: something")
		}
		counts(t, d, 0, 0)
	}
}

// TestFits: P12.2, what fits, and what does not; with an error nothing has changed.
func TestFits(t *testing.T) {
	extremes := []int{math.MinInt, math.MinInt + 64, -65, -64, -1, 0, 1, 62, 63, 64, 65, 128, math.MaxInt - 64, math.MaxInt - 1, math.MaxInt}
	for _, at := range extremes {
		for _, n := range extremes {
			d := of(t, 64)
			writes(t, d, 3, "abc")
			fits := at >= 0 && at <= 64 && n >= 0 && n <= 64 && at+n <= 64
			b, e := d.Read(at, n)
			if fits && (e != api.OK || len(b) != n) || !fits && (e != api.ErrArg || len(b) != 0) {
				t.Errorf("Read(%d, %d): %d bytes, %v", at, n, len(b), e)
			}
			if n < 0 || n > 200 {
				continue
			}
			e = d.Write(at, bytes.Repeat([]byte{7}, n))
			if fits {
				if e != api.OK || d.Waits() != 3+n {
					t.Errorf("Write(%d) of %d: %v, %d wait", at, n, e, d.Waits())
				}
				counts(t, d, 0, 3+n)
				continue
			}
			if e != api.ErrArg {
				t.Errorf("Write(%d) of %d: %v", at, n, e)
			}
			stands(t, d, 0, "\x00\x00\x00abc\x00", 3)
			counts(t, d, 0, 3)
		}
	}
}

// TestWaits: P12.2, writes wait, and are read; Flush does them.
func TestWaits(t *testing.T) {
	d := of(t, 64)
	writes(t, d, 0, "abcde")
	writes(t, d, 3, "XYZ")
	writes(t, d, 62, "uv")
	stands(t, d, 0, "abcXYZ\x00", 10)
	stands(t, d, 2, "cX", 10)
	stands(t, d, 4, "YZ\x00", 10)
	stands(t, d, 61, "\x00uv", 10)
	writes(t, d, 1, "")
	writes(t, d, 64, "")
	stands(t, d, 0, "abcXYZ\x00", 10)
	counts(t, d, 0, 10)
	if e := d.Flush(); e != api.OK {
		t.Errorf("Flush: %v", e)
	}
	stands(t, d, 0, "abcXYZ\x00", 0)
	stands(t, d, 61, "\x00uv", 0)
	counts(t, d, 1, 10)
	if e := d.Flush(); e != api.OK { // nothing waits
		t.Errorf("Flush: %v", e)
	}
	counts(t, d, 2, 10)
	writes(t, d, 2, "!")
	stands(t, d, 0, "ab!XYZ\x00", 1)
	counts(t, d, 2, 11)
}

// TestCrash: P12.2, so many bytes last, of all writes that wait, in order, one behind the other.
func TestCrash(t *testing.T) {
	for _, c := range []struct {
		last int
		want string
	}{
		{math.MinInt, "......."}, {-1, "......."}, {0, "......."},
		{1, "..a...."}, {2, "..ab..."}, {3, "..abc.."},
		{4, "..aXc.."}, {5, "..aXY.."}, {6, "..aXYZ."}, // over what was just written
		{7, "1.aXYZ."}, {8, "12aXYZ."}, {9, "12aXYZ."}, {1000, "12aXYZ."}, {math.MaxInt, "12aXYZ."},
	} {
		d := of(t, 64)
		writes(t, d, 0, ".......")
		d.Flush()
		writes(t, d, 2, "abc")
		writes(t, d, 9, "")
		writes(t, d, 3, "XYZ")
		writes(t, d, 0, "12")
		if e := d.Crash(c.last); e != api.OK {
			t.Errorf("Crash(%d): %v", c.last, e)
		}
		stands(t, d, 0, c.want+"\x00\x00", 0)
		counts(t, d, 1, 15)
		d.Flush() // what is lost does not come again
		d.Crash(9)
		stands(t, d, 0, c.want+"\x00\x00", 0)
		writes(t, d, 1, "n")
		stands(t, d, 0, c.want[:1]+"n"+c.want[2:], 1)
		d.Crash(1)
		stands(t, d, 0, c.want[:1]+"n"+c.want[2:], 0)
	}
}

// model is a disk, by the words of the document: each byte that waits with its place.
type model struct {
	has              []byte
	at               []int
	waits            []byte
	flushes, written int
}

// done is what a model has, with the first n bytes that wait.
func (m *model) done(n int) []byte {
	b := slices.Clone(m.has)
	for i := 0; i < n && i < len(m.at); i++ {
		b[m.at[i]] = m.waits[i]
	}
	return b
}

// end lets the first n bytes that wait last.
func (m *model) end(n int) {
	m.has, m.at, m.waits = m.done(n), nil, nil
}

// randomly does something to a disk and a model.
func randomly(t *testing.T, r *rand.Rand, d *Disk, m *model) {
	t.Helper()
	switch k := r.Intn(12); {
	case k < 9:
		b := make([]byte, r.Intn(12))
		r.Read(b)
		at := r.Intn(d.Size() + 1 - len(b))
		writes(t, d, at, string(b))
		for i, c := range b {
			m.at, m.waits = append(m.at, at+i), append(m.waits, c)
		}
		m.written += len(b)
	case k == 9:
		if e := d.Flush(); e != api.OK {
			t.Fatalf("Flush: %v", e)
		}
		m.end(len(m.at))
		m.flushes++
	case k == 10:
		last := r.Intn(len(m.at)+4) - 2
		if e := d.Crash(last); e != api.OK {
			t.Fatalf("Crash: %v", e)
		}
		m.end(last)
	default:
		if e := d.Write(d.Size()-r.Intn(3), []byte("1234")); e != api.ErrArg {
			t.Fatalf("Write beyond the end: %v", e)
		}
	}
}

// TestAny: P12.1 to P12.3, whatever happens, against the words of the document.
func TestAny(t *testing.T) {
	r := rand.New(rand.NewSource(12))
	for range 300 {
		d := of(t, 64+r.Intn(40))
		m := &model{has: make([]byte, d.Size())}
		for range r.Intn(60) {
			randomly(t, r, d, m)
			want := m.done(len(m.at))
			if got := all(t, d); !bytes.Equal(got, want) {
				t.Fatalf("Read: %x, want %x", got, want)
			}
			at := r.Intn(d.Size() + 1)
			n := r.Intn(d.Size() + 1 - at)
			stands(t, d, at, string(want[at:at+n]), len(m.at))
			counts(t, d, m.flushes, m.written)
		}
	}
}

// TestFirstBytes: P12.3, behind a crash a disk is as behind the first bytes of what was written; behind a Flush a crash changes nothing.
func TestFirstBytes(t *testing.T) {
	r := rand.New(rand.NewSource(13))
	for range 40 {
		seed := r.Int63()
		play := func() (*Disk, *model) {
			r := rand.New(rand.NewSource(seed))
			d := of(t, 64)
			m := &model{has: make([]byte, d.Size())}
			for range 25 {
				randomly(t, r, d, m)
			}
			return d, m
		}
		_, m := play()
		for last := -1; last <= len(m.at)+1; last++ {
			d, _ := play()
			d.Crash(last)
			if got, want := all(t, d), m.done(last); !bytes.Equal(got, want) || d.Waits() != 0 {
				t.Fatalf("Crash(%d): %x, want %x", last, got, want)
			}
			d, _ = play()
			d.Flush()
			d.Crash(last)
			if got, want := all(t, d), m.done(len(m.at)); !bytes.Equal(got, want) || d.Waits() != 0 {
				t.Fatalf("Flush, Crash(%d): %x, want %x", last, got, want)
			}
		}
	}
}

// TestGreat: a whole disk, written and read at once.
func TestGreat(t *testing.T) {
	d := of(t, 262144)
	b := bytes.Repeat([]byte("trug"), 262144/4)
	for range 3 {
		if e := d.Write(0, b); e != api.OK {
			t.Fatalf("Write: %v", e)
		}
	}
	stands(t, d, 0, string(b), 3*262144)
	d.Crash(262143)
	stands(t, d, 0, string(b[:262143])+"\x00", 0)
	counts(t, d, 0, 3*262144)
}

// TestOwnMemory: what is handed in is neither changed nor kept, what is handed out is new memory.
func TestOwnMemory(t *testing.T) {
	d := of(t, 64)
	b := []byte("abcdefgh")
	if e := d.Write(0, b[:4]); e != api.OK || string(b) != "abcdefgh" {
		t.Fatalf("Write: %v, %q", e, b)
	}
	copy(b, "12345678")
	stands(t, d, 0, "abcd\x00", 4)
	got, _ := d.Read(0, 2)
	got[0] = '?'
	got = append(got, "???"...)
	stands(t, d, 0, "abcd\x00", 4)
	d.Flush()
	copy(b, "87654321")
	got, _ = d.Read(0, 2)
	got[0] = '?'
	_ = append(got, "???"...)
	stands(t, d, 0, "abcd\x00", 0)
	d.Crash(0)
	stands(t, d, 0, "abcd\x00", 0)
}

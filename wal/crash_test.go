package wal

import (
	"bytes"
	"math/rand"
	"strings"
	"testing"

	"trug/api"
	"trug/disk"
)

// model is what a log was, by the words of the document.
type model struct {
	parts   []string // the checkpoint
	records []string // all that are behind it
	opened  int      // of these, how many were there when it was opened
	sure    int      // of the others
	next    []string // a change's parts
	stage   int
	gen     uint32
	secrets []string // what was ahead of the last change that began
	used    int      // how many texts there were
}

// text is a text that no other one is a part of.
func (m *model) text(r *rand.Rand) string {
	m.used++
	return "<" + string(rune('a'+m.used%26)) + string(rune('a'+m.used/26%26)) + strings.Repeat(".", r.Intn(12)) + ">"
}

// moves lets a step of a change come to pass.
func (m *model) moves() {
	switch m.stage {
	case 4:
		m.parts, m.records, m.opened, m.sure = m.next, nil, 0, 0
		m.gen++
	case 5:
		m.stage = -1
	}
	m.stage++
}

// crashed asks what is there when a log is opened behind a crash, and lets the model be so.
func (m *model) crashed(t *testing.T, d *disk.Disk) *Log {
	t.Helper()
	l, p, r, e := Open(d)
	if e != api.OK {
		t.Fatalf("Open: %v", e)
	}
	old := equal(p, lists(m.parts...)) && len(r) >= m.opened+m.sure && len(r) <= len(m.records) && equal(r, lists(m.records[:len(r)]...)) && l.Gen() == m.gen
	fresh := m.stage == 4 && equal(p, lists(m.next...)) && len(r) == 0 && l.Gen() == m.gen+1
	switch {
	case fresh:
		m.parts, m.gen = m.next, m.gen+1
		fallthrough
	case old:
		m.records, m.opened, m.sure, m.stage = m.records[:len(r)], len(r), 0, 0
	default:
		t.Fatalf("Open: %d %q %q; it had %d %q %q, sure of %d, stage %d, %q", l.Gen(), p, r, m.gen, m.parts, m.records, m.opened+m.sure, m.stage, m.next)
	}
	return l
}

// wiped asks that nothing of what was ahead of a change stands on the disk.
func (m *model) wiped(t *testing.T, d *disk.Disk) {
	t.Helper()
	all := bytesOf(t, d)
	for _, s := range m.secrets {
		if bytes.Contains(all, []byte(s)) {
			t.Fatalf("it stands there: %q", s)
		}
	}
	areas, _ := Areas(d)
	if old := areas[m.gen%2]; !bytes.Equal(old, make([]byte, len(old))) {
		t.Fatalf("no noughts: %x", old)
	}
}

// begins asks for a change, that begins or does not.
func (m *model) begins(t *testing.T, r *rand.Rand, d *disk.Disk, l *Log) {
	t.Helper()
	used := m.used
	var parts []string
	n := 0
	for range r.Intn(4) {
		parts = append(parts, m.text(r))
		n += 9 + len(parts[len(parts)-1])
	}
	want := api.OK
	switch {
	case m.stage > 0 || m.opened+m.sure < len(m.records):
		want = api.ErrBusy
	case n > (d.Size()-32)/2:
		want = api.ErrFull
	}
	if e := l.Begin(lists(parts...)); e != want {
		t.Fatalf("Begin: %v, want %v", e, want)
	}
	if want != api.OK {
		m.used = used
		return
	}
	m.next, m.stage = parts, 1
	m.secrets = append(append(m.secrets, m.parts...), m.records...)
}

// appends asks for a record, that is appended or is not.
func (m *model) appends(t *testing.T, r *rand.Rand, l *Log) {
	t.Helper()
	s := m.text(r)
	n := 9 + len(s)
	want := api.OK
	switch {
	case m.stage > 0:
		want = api.ErrBusy
	case n > l.Room():
		want = api.ErrFull
	}
	if _, e := l.Append([]byte(s)); e != want {
		t.Fatalf("Append: %v, want %v", e, want)
	}
	if want == api.OK {
		m.records = append(m.records, s)
	}
}

// something happens to a log: what is the log then.
func (m *model) something(t *testing.T, r *rand.Rand, d *disk.Disk, l *Log) *Log {
	t.Helper()
	switch k := r.Intn(20); {
	case k < 6:
		m.appends(t, r, l)
	case k < 9:
		syncs(t, l)
		m.sure = len(m.records) - m.opened
	case k < 12:
		m.begins(t, r, d, l)
	case k < 19:
		if m.stage > 0 {
			m.moves()
			steps(t, l, m.stage)
			if m.stage == 0 {
				m.wiped(t, d)
			}
		}
	default:
		d.Crash(r.Intn(d.Waits() + 2))
		l = m.crashed(t, d)
		m.secrets = append(m.secrets, m.next...) // of a change that did not end
	}
	if l.Stage() != m.stage || l.Gen() != m.gen {
		t.Fatalf("Stage %d, Gen %d; want %d and %d", l.Stage(), l.Gen(), m.stage, m.gen)
	}
	return l
}

// TestBeginning: P14.5 and P14.6, whatever happened, a crash of which any number of bytes lasts leaves a beginning of it.
func TestBeginning(t *testing.T) {
	for seed := range int64(60) {
		play := func(n int) (*disk.Disk, *model, *Log) {
			r := rand.New(rand.NewSource(seed))
			d, l := formatted(t, 32+2*(30+r.Intn(80))+r.Intn(2))
			m := &model{gen: 1}
			for range n {
				l = m.something(t, r, d, l)
			}
			return d, m, l
		}
		for n := range 40 {
			d, _, _ := play(n)
			for last := range d.Waits() + 1 {
				d, m, _ := play(n)
				d.Crash(last)
				m.crashed(t, d)
				if n%8 == 0 { // the noughts behind the tail wait: another crash leaves the same
					d.Crash(last)
					m.crashed(t, d)
				}
			}
		}
	}
}

// TestEveryByte: P14.5, just those records are there all of whose bytes lasted; the change is there when its whole slot lasted.
func TestEveryByte(t *testing.T) {
	texts := []string{"ab", "cdef", "g", "hijklmn"}
	for last := range 51 {
		d, l := formatted(t, 400)
		appends(t, l, "sure")
		syncs(t, l)
		want, ends := []string{"sure"}, 0
		for _, s := range texts {
			appends(t, l, s)
			if ends += 9 + len(s); ends <= last {
				want = append(want, s)
			}
		}
		d.Crash(last)
		l = opens(t, d, nil, want)
		appends(t, l, "more") // and what is appended then stands behind them
		syncs(t, l)
		opens(t, d, nil, append(want, "more"))
	}
	for last := range 20 {
		d, l := formatted(t, 400)
		appends(t, l, "sure")
		syncs(t, l)
		l.Begin(lists("state"))
		for range 3 {
			l.Step()
		}
		d.Crash(last)
		if last < 16 {
			opens(t, d, nil, []string{"sure"})
		} else {
			opens(t, d, []string{"state"}, nil)
		}
	}
}

// TestTornAgain: P14.2 and P14.5, what a torn frame left does not come back behind what is written over it.
func TestTornAgain(t *testing.T) {
	inner := string(frameOf(t, 2, "inner")) // a frame within a record's bytes
	for kept := range 2*len(inner) + 9 {
		for last := range 60 {
			d, l := formatted(t, 400)
			appends(t, l, strings.Repeat(inner, 2))
			d.Crash(kept)
			l = opens(t, d, nil, nil)
			appends(t, l, "12345")
			d.Crash(d.Waits() - last)
			_, _, r, e := Open(d)
			if e != api.OK || len(r) > 1 || len(r) == 1 && (last > 0 || string(r[0]) != "12345") {
				t.Fatalf("Open: %q %v", r, e)
			}
		}
	}
}

// TestWiped: P14.6, behind a change nothing of what was ahead of it stands on the disk, whatever crashes there were.
func TestWiped(t *testing.T) {
	for stage := range 5 {
		for _, last := range []int{0, 1, 7, 15, 16, 20, 1000} {
			d, l := formatted(t, 32+2*90)
			appends(t, l, "secret record")
			syncs(t, l)
			l.Begin(lists("secret part"))
			for range stage {
				l.Step()
			}
			d.Crash(last)
			l, _, _, e := Open(d)
			if e != api.OK {
				t.Fatalf("Open: %v", e)
			}
			appends(t, l, "secret too")
			syncs(t, l)
			changes(t, l, "known")
			d.Crash(0)
			if all := bytesOf(t, d); bytes.Contains(all, []byte("secret")) || bytes.Count(all, []byte("known")) != 1 {
				t.Errorf("stage %d, %d last: %q", stage, last, all)
			}
			opens(t, d, []string{"known"}, nil)
		}
	}
}

// TestAnyDisk: P1, whatever stands on a disk, each call ends, and what is opened is told again.
func TestAnyDisk(t *testing.T) {
	r := rand.New(rand.NewSource(14))
	opened := 0
	for range 20000 {
		size := 64 + r.Intn(60)
		d := of(t, size)
		b := make([]byte, size)
		r.Read(b)
		copy(b, slotOf(uint32(2*r.Intn(3)), byte(r.Intn(3))))
		copy(b[16:], slotOf(uint32(2*r.Intn(3)+1), byte(r.Intn(2))))
		for a := range 2 {
			at := b[32+a*((size-32)/2):]
			for i := range at {
				at[i] = 0
			}
			for range r.Intn(3) {
				f := frameOf(t, 1+r.Intn(3), strings.Repeat("x", r.Intn(3)))
				if r.Intn(4) == 0 {
					f[r.Intn(len(f))] ^= byte(1 + r.Intn(255))
				}
				at = at[copy(at, f):]
			}
		}
		d.Write(0, b)
		l, p, q, e := Open(d)
		if e != api.OK {
			if l != nil || len(p) != 0 || len(q) != 0 || e != api.ErrNone && e != api.ErrSum && e != api.ErrForm {
				t.Fatalf("Open: %q %q %v", p, q, e)
			}
			continue
		}
		opened++
		m, p2, q2, e := Open(d)
		if e != api.OK || !equal(p, p2) || !equal(q, q2) || m.Gen() != l.Gen() || m.Room() != l.Room() {
			t.Fatalf("Open: %q %q, then %q %q %v", p, q, p2, q2, e)
		}
		l.Append([]byte("a"))
		l.Sync()
		l.Begin(lists("b"))
		for range 6 {
			l.Step()
		}
	}
	if opened < 1000 {
		t.Errorf("only %d were opened", opened)
	}
}

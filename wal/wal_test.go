package wal

import (
	"bytes"
	"encoding/binary"
	"math"
	"slices"
	"strings"
	"testing"

	"trug/api"
	"trug/disk"
	"trug/frames"
)

// of is a disk of so many bytes.
func of(t *testing.T, size int) *disk.Disk {
	t.Helper()
	d, e := disk.New(size)
	if e != api.OK {
		t.Fatalf("disk.New(%d): %v", size, e)
	}
	return d
}

// formatted is a log without records, on a disk of so many bytes.
func formatted(t *testing.T, size int) (*disk.Disk, *Log) {
	t.Helper()
	d := of(t, size)
	l, e := Format(d)
	if e != api.OK || l == nil {
		t.Fatalf("Format: %v", e)
	}
	return d, l
}

// appends appends a record that fits.
func appends(t *testing.T, l *Log, b string) {
	t.Helper()
	all := l.All()
	if n, e := l.Append([]byte(b)); e != api.OK || n != all+1 || l.All() != n {
		t.Fatalf("Append(%q): %d %v, All %d", b, n, e, l.All())
	}
}

// syncs makes a log sure of all.
func syncs(t *testing.T, l *Log) {
	t.Helper()
	if e := l.Sync(); e != api.OK || l.Sure() != l.All() {
		t.Fatalf("Sync: %v, Sure %d of %d", e, l.Sure(), l.All())
	}
}

// lists is texts as lists of bytes.
func lists(l ...string) [][]byte {
	var out [][]byte
	for _, s := range l {
		out = append(out, []byte(s))
	}
	return out
}

// changes makes a whole change.
func changes(t *testing.T, l *Log, parts ...string) {
	t.Helper()
	if e := l.Begin(lists(parts...)); e != api.OK {
		t.Fatalf("Begin: %v", e)
	}
	for _, want := range []int{2, 3, 4, 5, 0} {
		steps(t, l, want)
	}
}

// steps makes a step of a change.
func steps(t *testing.T, l *Log, want int) {
	t.Helper()
	if n, e := l.Step(); e != api.OK || n != want || l.Stage() != want {
		t.Fatalf("Step: %d %v, Stage %d, want %d", n, e, l.Stage(), want)
	}
}

// equal tells whether two lists of lists of bytes are.
func equal(a, b [][]byte) bool { return slices.EqualFunc(a, b, bytes.Equal) }

// opens asks what is there when a log is opened.
func opens(t *testing.T, d *disk.Disk, parts, records []string) *Log {
	t.Helper()
	l, p, r, e := Open(d)
	if e != api.OK || l == nil || !equal(p, lists(parts...)) || !equal(r, lists(records...)) {
		t.Fatalf("Open: %.40q %.40q %v, want %.40q %.40q", p, r, e, parts, records)
	}
	if l.All() != 0 || l.Sure() != 0 || l.Stage() != 0 {
		t.Fatalf("Open: All %d, Sure %d, Stage %d", l.All(), l.Sure(), l.Stage())
	}
	return l
}

// refuses asks that there is no log to be opened, and that nothing has changed.
func refuses(t *testing.T, d *disk.Disk, want api.Errno) {
	t.Helper()
	n := d.Waits()
	if l, p, r, e := Open(d); l != nil || len(p) != 0 || len(r) != 0 || e != want || d.Waits() != n {
		t.Errorf("Open: %v %q %q %v, want %v; %d wait", l, p, r, e, want, d.Waits()-n)
	}
}

// bytesOf is all bytes of a disk.
func bytesOf(t *testing.T, d *disk.Disk) []byte {
	t.Helper()
	b, e := d.Read(0, d.Size())
	if e != api.OK {
		t.Fatalf("Read: %v", e)
	}
	return b
}

// slotOf is a slot by the words of the document.
func slotOf(gen uint32, area byte) []byte {
	b := binary.BigEndian.AppendUint32([]byte{0x5A}, gen)
	return binary.BigEndian.AppendUint32(append(b, area, 0, 0, 0, 0, 0, 0), gen)
}

// frameOf is a record's frame.
func frameOf(t *testing.T, kind int, data string) []byte {
	t.Helper()
	b, e := frames.Write(frames.Record{Kind: kind, Data: []byte(data)})
	if e != api.OK {
		t.Fatalf("frames.Write: %v", e)
	}
	return b
}

// padded is bytes, with noughts behind them: so many in all.
func padded(n int, l ...[]byte) []byte {
	out := make([]byte, n)
	copy(out, slices.Concat(l...))
	return out
}

// stands asks for both areas.
func stands(t *testing.T, d *disk.Disk, first, second []byte) {
	t.Helper()
	a, e := Areas(d)
	if e != api.OK || !bytes.Equal(a[0], first) || !bytes.Equal(a[1], second) {
		t.Errorf("Areas: %x %v, want %x and %x", a, e, first, second)
	}
}

// handmade is a disk with these slots, and an area's bytes at both areas.
func handmade(t *testing.T, size int, even, odd, area []byte) *disk.Disk {
	t.Helper()
	d := of(t, size)
	d.Write(0, even)
	d.Write(16, odd)
	d.Write(32, area)
	d.Write(32+(size-32)/2, area)
	d.Flush()
	return d
}

// TestFormat: P14.1, all is written as noughts, then the slot of the generation 1; flushed.
func TestFormat(t *testing.T) {
	for _, size := range []int{64, 65, 66, 67, 400, 9999, 262143, 262144} {
		d := of(t, size)
		d.Write(0, bytes.Repeat([]byte{0x5A}, size))
		d.Flush()
		d.Write(3, []byte("waits"))
		l, e := Format(d)
		if e != api.OK || l == nil {
			t.Fatalf("Format: %v", e)
		}
		if f, n := d.Counts(); f != 2 || n != size+5+size+16 || d.Waits() != 0 {
			t.Errorf("Counts: %d %d, %d wait", f, n, d.Waits())
		}
		want := padded(size, make([]byte, 16), slotOf(1, 0))
		d.Crash(0)
		if got := bytesOf(t, d); !bytes.Equal(got, want) {
			t.Errorf("Format: %.60x, want %.60x", got, want)
		}
		if l.All() != 0 || l.Sure() != 0 || l.Stage() != 0 || l.Gen() != 1 || l.Room() != (size-32)/2 {
			t.Errorf("Format: %d %d %d %d %d", l.All(), l.Sure(), l.Stage(), l.Gen(), l.Room())
		}
		if m := opens(t, d, nil, nil); m.Gen() != 1 || m.Room() != (size-32)/2 || d.Waits() != (size-32)/2 {
			t.Errorf("Open: %d %d, %d wait", m.Gen(), m.Room(), d.Waits())
		}
	}
}

// TestNil: P14.1, P14.2 and P1, of nil, or of one that no call made.
func TestNil(t *testing.T) {
	for _, d := range []*disk.Disk{nil, {}} {
		if l, e := Format(d); l != nil || e != api.ErrNil {
			t.Errorf("Format: %v %v", l, e)
		}
		if l, p, r, e := Open(d); l != nil || p != nil || r != nil || e != api.ErrNil {
			t.Errorf("Open: %v %v %v %v", l, p, r, e)
		}
		if a, e := Areas(d); a[0] != nil || a[1] != nil || e != api.ErrNil {
			t.Errorf("Areas: %v %v", a, e)
		}
	}
	for _, l := range []*Log{nil, {}} {
		for _, b := range [][]byte{nil, {1}, make([]byte, 70000)} {
			if n, e := l.Append(b); n != 0 || e != api.ErrNil {
				t.Errorf("Append: %d %v", n, e)
			}
			if e := l.Begin([][]byte{b}); e != api.ErrNil {
				t.Errorf("Begin: %v", e)
			}
		}
		if n, e := l.Step(); n != 0 || e != api.ErrNil {
			t.Errorf("Step: %d %v", n, e)
		}
		if e := l.Sync(); e != api.ErrNil {
			t.Errorf("Sync: %v", e)
		}
		if l.Room() != 0 || l.All() != 0 || l.Sure() != 0 || l.Stage() != 0 || l.Gen() != 0 {
			t.Errorf("of nil: something")
		}
	}
}

// TestAreas: P14.1, all bytes of both areas, those that wait too; of an odd size the last byte is of none.
func TestAreas(t *testing.T) {
	for _, size := range []int{64, 65, 100, 101} {
		d := of(t, size)
		b := make([]byte, size)
		for i := range b {
			b[i] = byte(i)
		}
		d.Write(0, b)
		n := (size - 32) / 2
		stands(t, d, b[32:32+n], b[32+n:32+2*n])
		d.Flush()
		stands(t, d, b[32:32+n], b[32+n:32+2*n])
	}
}

// TestSlots: P14.2, which slots stand at their places, and which one counts.
func TestSlots(t *testing.T) {
	none := make([]byte, 16)
	area := []byte{}
	for _, c := range []struct {
		even, odd []byte
		gen       uint32
		in        int
	}{
		{none, slotOf(1, 0), 1, 0}, {none, slotOf(1, 1), 1, 1}, {none, slotOf(77, 1), 77, 1}, {slotOf(2, 0), none, 2, 0}, {slotOf(2, 1), none, 2, 1},
		{slotOf(2, 1), slotOf(1, 0), 2, 1}, {slotOf(2, 1), slotOf(3, 0), 3, 0}, {slotOf(2, 1), slotOf(3, 1), 3, 1}, {slotOf(4, 0), slotOf(1, 1), 4, 0},
		{slotOf(1<<31, 1), slotOf(1<<31-1, 0), 1 << 31, 1}, {slotOf(2, 0), slotOf(1<<31+1, 1), 1<<31 + 1, 1}, {slotOf(math.MaxUint32-1, 0), slotOf(math.MaxUint32, 1), math.MaxUint32, 1},
		{slotOf(0x01020304, 1), slotOf(0x01020303, 0), 0x01020304, 1}, {slotOf(256, 1), slotOf(3, 0), 256, 1},
		{slotOf(3, 1), slotOf(1, 0), 1, 0}, // not at its place
		{slotOf(2, 1), slotOf(4, 0), 2, 1}, {slotOf(0, 1), slotOf(1, 0), 1, 0}, {slotOf(4, 2), slotOf(1, 0), 1, 0}, {slotOf(4, 255), slotOf(1, 1), 1, 1},
		{slotOf(0, 0), none, 0, 0}, {none, none, 0, 0}, {slotOf(1, 0), slotOf(2, 0), 0, 0}, {none, slotOf(0, 0), 0, 0}, {slotOf(2, 2), slotOf(1, 3), 0, 0},
	} {
		d := handmade(t, 400, c.even, c.odd, area)
		if c.gen == 0 {
			refuses(t, d, api.ErrNone)
			continue
		}
		d.Write(32+184*c.in, frameOf(t, 2, "here"))
		l := opens(t, d, nil, []string{"here"})
		if l.Gen() != c.gen || l.Room() != 184-13 {
			t.Errorf("Open: %d %d, want %d", l.Gen(), l.Room(), c.gen)
		}
		appends(t, l, "too")
		if a, _ := Areas(d); !bytes.Equal(a[c.in][13:25], frameOf(t, 2, "too")) {
			t.Errorf("Append: %x", a)
		}
	}
	for i := range 16 { // whatever byte of it is another one
		for _, other := range []byte{0, 1, 2, 3, 7, 0x5A, 255} {
			b := slotOf(0x09070503, 1)
			if i == 5 && other == 0 || b[i] == other {
				continue
			}
			b[i] = other
			refuses(t, handmade(t, 64, none, b, area), api.ErrNone)
			if l := opens(t, handmade(t, 64, slotOf(2, 0), b, area), nil, nil); l.Gen() != 2 {
				t.Errorf("Open: %d", l.Gen())
			}
		}
	}
}

// TestOpen: P14.2, what an area's records say.
func TestOpen(t *testing.T) {
	one, two, three := func(s string) []byte { return frameOf(t, 1, s) }, func(s string) []byte { return frameOf(t, 2, s) }, func(s string) []byte { return frameOf(t, 3, s) }
	sum, kind := two("wrong"), frameOf(t, 1, "none")
	sum[12]++
	kind[1] = 0
	torn := two("torn")[:12]
	for _, c := range []struct {
		area           []byte
		parts, records []string
		tail           int
		e              api.Errno
	}{
		{nil, nil, nil, 0, 0},
		{one("a"), []string{"a"}, nil, 10, 0},
		{two("a"), nil, []string{"a"}, 10, 0},
		{slices.Concat(one("ab"), one(""), one("c")), []string{"ab", "", "c"}, nil, 30, 0},
		{slices.Concat(two("ab"), two("c")), nil, []string{"ab", "c"}, 21, 0},
		{slices.Concat(one("ab"), one("c"), two("d"), two("ef")), []string{"ab", "c"}, []string{"d", "ef"}, 42, 0},
		{slices.Concat(one("ab"), two("d"), torn), []string{"ab"}, []string{"d"}, 21, 0},
		{slices.Concat(one("ab"), two(""), []byte{0}, three("x")), []string{"ab"}, []string{""}, 20, 0}, // behind the tail's begin nothing counts
		{slices.Concat(one("ab"), torn, sum, kind), []string{"ab"}, nil, 11, 0},
		{slices.Concat(two("d"), one("ab")), nil, nil, 0, api.ErrForm},
		{slices.Concat(one("a"), two("d"), one("ab"), two("e")), nil, nil, 0, api.ErrForm},
		{three("x"), nil, nil, 0, api.ErrForm},
		{slices.Concat(one("a"), three("x")), nil, nil, 0, api.ErrForm},
		{slices.Concat(two("a"), frameOf(t, 255, "")), nil, nil, 0, api.ErrForm},
		{sum, nil, nil, 0, api.ErrSum},
		{slices.Concat(one("a"), two("b"), sum, two("c")), nil, nil, 0, api.ErrSum},
		{slices.Concat(three("a"), sum), nil, nil, 0, api.ErrSum}, // Read's error is ahead
		{slices.Concat(two("a"), kind, sum), nil, nil, 0, api.ErrForm},
	} {
		d := handmade(t, 32+2*150, slotOf(2, 1), slotOf(1, 0), c.area)
		if c.e != api.OK {
			refuses(t, d, c.e)
			continue
		}
		l := opens(t, d, c.parts, c.records)
		if l.Gen() != 2 || l.Room() != 150-c.tail || d.Waits() != 150-c.tail {
			t.Errorf("Open: %d %d, %d wait, want a tail from %d on", l.Gen(), l.Room(), d.Waits(), c.tail)
		}
		stands(t, d, padded(150, c.area), padded(150, c.area[:c.tail])) // the other area is as it was
		d.Crash(0)
		stands(t, d, padded(150, c.area), padded(150, c.area))
	}
}

// TestFull: P14.2, an area that its frames fill has no tail.
func TestFull(t *testing.T) {
	d, l := formatted(t, 65)
	appends(t, l, "1234567")
	if l.Room() != 0 {
		t.Errorf("Room: %d", l.Room())
	}
	syncs(t, l)
	if l := opens(t, d, nil, []string{"1234567"}); l.Room() != 0 || d.Waits() != 0 {
		t.Errorf("Open: %d, %d wait", l.Room(), d.Waits())
	}
	stands(t, d, frameOf(t, 2, "1234567"), make([]byte, 16))
}

// TestAppend: P14.3, what is appended stands at the tail, and waits.
func TestAppend(t *testing.T) {
	d, l := formatted(t, 400)
	appends(t, l, "ab")
	appends(t, l, "c")
	if l.Sure() != 0 || l.Room() != 184-21 || d.Waits() != 21 {
		t.Errorf("Append: Sure %d, Room %d, %d wait", l.Sure(), l.Room(), d.Waits())
	}
	stands(t, d, padded(184, frameOf(t, 2, "ab"), frameOf(t, 2, "c")), make([]byte, 184))
	before, _ := d.Counts()
	syncs(t, l)
	if f, _ := d.Counts(); f != before+1 || d.Waits() != 0 || l.Sure() != 2 {
		t.Errorf("Sync: %d flushes, %d wait, sure of %d", f-before, d.Waits(), l.Sure())
	}
	appends(t, l, "def")
	if l.All() != 3 || l.Sure() != 2 {
		t.Errorf("Append: All %d, Sure %d", l.All(), l.Sure())
	}
	m := opens(t, d, nil, []string{"ab", "c", "def"})
	appends(t, m, "g")
	syncs(t, m)
	if m.All() != 1 || m.Room() != 184-43 {
		t.Errorf("Append: All %d, Room %d", m.All(), m.Room())
	}
	opens(t, d, nil, []string{"ab", "c", "def", "g"})
}

// TestAppendErrors: P14.3, what is not appended, and which error is first; nothing has changed then.
func TestAppendErrors(t *testing.T) {
	long, longest := strings.Repeat("x", api.MaxRecord+1), strings.Repeat("x", api.MaxRecord)
	d, l := formatted(t, 32+2*(api.MaxRecord+9+12))
	refused := func(b string, want api.Errno) {
		t.Helper()
		all, room, waits := l.All(), l.Room(), d.Waits()
		if n, e := l.Append([]byte(b)); n != 0 || e != want || l.All() != all || l.Room() != room || d.Waits() != waits {
			t.Errorf("Append of %d bytes: %d %v, want %v; All %d, Room %d, %d wait", len(b), n, e, want, l.All(), l.Room(), d.Waits())
		}
	}
	refused("", api.ErrForm)
	refused(long, api.ErrForm)
	refused(strings.Repeat("x", 70000), api.ErrForm)
	appends(t, l, longest)
	refused(longest, api.ErrFull)
	refused("1234", api.ErrFull) // a byte too many
	refused("", api.ErrForm)
	refused(long, api.ErrForm)
	syncs(t, l)
	l.Begin(nil)
	refused("1", api.ErrBusy)
	refused("1234", api.ErrBusy) // ahead of ErrFull
	refused("", api.ErrForm)     // ahead of ErrBusy
	refused(long, api.ErrForm)
	for want := 2; want <= 5; want++ {
		steps(t, l, want)
		refused("1", api.ErrBusy)
	}
	steps(t, l, 0)
	appends(t, l, "1")
	_, l = formatted(t, 32+2*22)
	appends(t, l, "123")
	appends(t, l, "1") // it just fits
	if l.Room() != 0 {
		t.Errorf("Room: %d", l.Room())
	}
}

// TestBegin: P14.4, what no change begins by, and which error is first.
func TestBegin(t *testing.T) {
	d, l := formatted(t, 32+2*(60009+19))
	refused := func(want api.Errno, parts ...[]byte) {
		t.Helper()
		stage := l.Stage()
		if e := l.Begin(parts); e != want || l.Stage() != stage || d.Waits() != 0 && want != api.ErrBusy {
			t.Errorf("Begin: %v, want %v; Stage %d", e, want, l.Stage())
		}
	}
	great, greater, tiny, small := make([]byte, 60000), make([]byte, 60001), make([]byte, 1), make([]byte, 10)
	if n, e := l.Step(); n != 0 || e != api.ErrNone {
		t.Errorf("Step: %d %v", n, e)
	}
	refused(api.ErrForm, greater)
	refused(api.ErrForm, great, great, greater) // ahead of ErrFull
	refused(api.ErrFull, great, great)
	refused(api.ErrFull, great, append(small, 0)) // a byte too many
	refused(api.ErrFull, great, small, nil)
	refused(api.ErrFull, great, nil, nil, tiny, great)
	appends(t, l, "not sure")
	refused(api.ErrBusy, tiny)
	refused(api.ErrBusy, greater)
	syncs(t, l)
	if e := l.Begin([][]byte{great, small}); e != api.OK || l.Stage() != 1 { // they just fit
		t.Fatalf("Begin: %v", e)
	}
	refused(api.ErrBusy, tiny)
	refused(api.ErrBusy, greater)
	for want := 2; want <= 5; want++ {
		steps(t, l, want)
		refused(api.ErrBusy, tiny)
	}
	steps(t, l, 0)
	if l.Room() != 0 {
		t.Errorf("Room: %d", l.Room())
	}
	opens(t, d, []string{string(great), string(small)}, nil)
	changes(t, l, "")
	opens(t, d, []string{""}, nil)
	changes(t, l)
	opens(t, d, nil, nil)
}

// TestBeginOpened: P14.4, of what was read when it was opened it need not be sure.
func TestBeginOpened(t *testing.T) {
	d, l := formatted(t, 400)
	appends(t, l, "ab")
	l = opens(t, d, nil, []string{"ab"})
	changes(t, l, "state")
	if l.Gen() != 2 {
		t.Errorf("Gen: %d", l.Gen())
	}
	opens(t, d, []string{"state"}, nil)
}

// begun is a log with a record, whose change just began; in the other area something of a change stands that a crash ended.
func begun(t *testing.T) (*disk.Disk, *Log) {
	t.Helper()
	d, l := formatted(t, 32+2*60)
	d.Write(92, []byte("left"))
	appends(t, l, "ab")
	syncs(t, l)
	d.Write(151, []byte("!")) // it waits
	if e := l.Begin(lists("st", "ate")); e != api.OK || l.Stage() != 1 || d.Waits() != 1 {
		t.Fatalf("Begin: %v, Stage %d", e, l.Stage())
	}
	return d, l
}

// TestSteps: P14.4, a change, step by step: what stands where, what waits, and how often the disk is flushed.
func TestSteps(t *testing.T) {
	old, none, left := padded(60, frameOf(t, 2, "ab")), make([]byte, 60), padded(60, []byte("left"))
	fresh := padded(60, frameOf(t, 1, "st"), frameOf(t, 1, "ate"))
	left[59] = '!'
	d, _ := begun(t)
	stands(t, d, old, left)
	for i, c := range []struct {
		first, second []byte // as they are read
		a, b          []byte // as they are behind a crash of which nothing lasts
		waits         int
		gen           uint32
		room          int
	}{
		{old, none, old, left, 60, 1, 49},
		{old, fresh, old, none, 23, 1, 49},
		{old, fresh, old, fresh, 16, 1, 49},
		{none, fresh, old, fresh, 60, 2, 37},
		{none, fresh, none, fresh, 0, 2, 37},
	} {
		d, l := begun(t)
		for range i {
			l.Step()
		}
		flushes, written := d.Counts()
		steps(t, l, (i+2)%6)
		f, w := d.Counts()
		if f != flushes+1 || w != written+c.waits || d.Waits() != c.waits || l.Gen() != c.gen || l.Room() != c.room || l.All() != 1 || l.Sure() != 1 {
			t.Errorf("step %d: %d flushes, %d written, %d wait, Gen %d, Room %d, %d %d", i+1, f-flushes, w-written, d.Waits(), l.Gen(), l.Room(), l.All(), l.Sure())
		}
		stands(t, d, c.first, c.second)
		d.Crash(0)
		stands(t, d, c.a, c.b)
	}
}

// TestGenerations: P14.4, change behind change: the slots, the areas, and what comes behind the parts.
func TestGenerations(t *testing.T) {
	d, l := begun(t)
	for want := 2; want <= 5; want++ {
		steps(t, l, want)
	}
	steps(t, l, 0)
	if n, e := l.Step(); n != 0 || e != api.ErrNone {
		t.Errorf("Step: %d %v", n, e)
	}
	slots := func(even, odd []byte) {
		t.Helper()
		if b := bytesOf(t, d); !bytes.Equal(b[:32], slices.Concat(even, odd)) {
			t.Errorf("the slots: %x", b[:32])
		}
	}
	slots(slotOf(2, 1), slotOf(1, 0))
	appends(t, l, "more")
	none, parts := make([]byte, 60), slices.Concat(frameOf(t, 1, "st"), frameOf(t, 1, "ate"))
	stands(t, d, none, padded(60, parts, frameOf(t, 2, "more")))
	syncs(t, l)
	if l.All() != 2 {
		t.Errorf("All: %d", l.All())
	}
	l = opens(t, d, []string{"st", "ate"}, []string{"more"})
	changes(t, l, "third")
	slots(slotOf(2, 1), slotOf(3, 0))
	stands(t, d, padded(60, frameOf(t, 1, "third")), none)
	changes(t, l, "fourth")
	slots(slotOf(4, 1), slotOf(3, 0))
	stands(t, d, none, padded(60, frameOf(t, 1, "fourth")))
}

// TestLastGeneration: behind the greatest generation there is none: no change begins that would end in nothing.
func TestLastGeneration(t *testing.T) {
	d := handmade(t, 400, slotOf(math.MaxUint32-1, 1), make([]byte, 16), frameOf(t, 2, "kept"))
	l := opens(t, d, nil, []string{"kept"})
	changes(t, l, "state")
	if l.Gen() != math.MaxUint32 {
		t.Errorf("Gen: %d", l.Gen())
	}
	opens(t, d, []string{"state"}, nil)
	if e := l.Begin(lists("another")); e != api.ErrFull || l.Stage() != 0 {
		t.Errorf("Begin: %v", e)
	}
	opens(t, d, []string{"state"}, nil)
}

// TestOwnMemory: what is handed in is neither changed nor kept, what is handed out is new memory, and so is each list in it.
func TestOwnMemory(t *testing.T) {
	d, l := formatted(t, 400)
	b := []byte("record, and more")
	l.Append(b[:6])
	syncs(t, l)
	parts := [][]byte{[]byte("first"), []byte("second")}
	if string(b) != "record, and more" {
		t.Errorf("Append: %q", b)
	}
	clear(b)
	opens(t, d, nil, []string{"record"})
	l.Begin(parts[:1])
	copy(parts[0], "?????")
	parts[0] = parts[1]
	for range 5 {
		l.Step()
	}
	appends(t, l, "one")
	appends(t, l, "two")
	_, p, r, _ := Open(d)
	for _, b := range slices.Concat(p, r) {
		copy(b, "????????")
		_ = append(b, "????????????????????"...)
	}
	_, r = append(p, []byte("?")), append(r, []byte("?"))
	opens(t, d, []string{"first"}, []string{"one", "two"})
	a, _ := Areas(d)
	kept := slices.Clone(a[1])
	for i := range a {
		a[0][i] = '?'
		_ = append(a[0], make([]byte, 500)...)
	}
	if !bytes.Equal(a[1], kept) {
		t.Errorf("Areas: %x", a[1])
	}
	stands(t, d, make([]byte, 184), kept)
}

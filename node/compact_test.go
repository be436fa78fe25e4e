package node

import (
	"bytes"
	"strings"
	"testing"

	"trug/api"
	"trug/disk"
	"trug/input"
	"trug/msg"
	"trug/op"
	"trug/state"
	"trug/wal"
)

// compacts makes a whole change.
func compacts(t *testing.T, x *Node) {
	t.Helper()
	if e := x.Compact(); e != api.OK || x.Log().Stage() != 1 {
		t.Fatalf("Compact: %v, Stage %d", e, x.Log().Stage())
	}
	for _, want := range []int{2, 3, 4, 5, 0} {
		if n, e := x.Step(); n != want || e != api.OK || x.Log().Stage() != want {
			t.Fatalf("Step: %d %v, not %d", n, e, want)
		}
	}
}

// keeps asks that Compact is refused, and that nothing has changed.
func keeps(t *testing.T, d *disk.Disk, x *Node, want api.Errno) {
	t.Helper()
	was := lookAt(d, x)
	if e := x.Compact(); e != want {
		t.Fatalf("Compact: %v, not %v", e, want)
	}
	if is := lookAt(d, x); is != was {
		t.Fatalf("Compact: it changed: %.300v, not %.300v", is, was)
	}
}

// checkpoint is the parts, and how many records there are, of a disk's log.
func checkpoint(t *testing.T, d *disk.Disk) ([][]byte, int) {
	t.Helper()
	_, parts, records, e := wal.Open(copyOf(d))
	if e != api.OK {
		t.Fatalf("wal.Open: %v", e)
	}
	return parts, len(records)
}

// fill lets a node's state be of so many bytes, by texts that wait; there is a link to 3 already, and some text waits there.
func fill(t *testing.T, x *Node, size int) {
	t.Helper()
	for {
		left := size - len(saved(x))
		n := min(left, 1000)
		if left > 1000 && left < 1400 {
			n = 500 // so that what is left is no text of a few bytes
		}
		if left == 0 {
			return
		}
		if n > 1+128 {
			n-- // of the text's own number of bytes, of which there are two then
		}
		if _, e := x.State().Links().Send(3, bytes.Repeat([]byte{7}, n-1)); e != api.OK {
			t.Fatalf("Send of %d bytes: %v", n-1, e)
		}
	}
}

// joined is the shard 2, that is ready for the seller 3, with the shards 3 and 12.
func joined(t *testing.T, size int) (*disk.Disk, *Node) {
	t.Helper()
	d, x := formatted(t, 2, size)
	does(t, x, foundOf(3), api.OK)
	does(t, x, text(3, 2, 1, msg.Ask(4, 3)), api.OK)
	does(t, x, text(12, 2, 1, msg.Ask(4, 3)), api.OK)
	does(t, x, orderOf(1, 3, add), api.OK)
	syncs(t, x)
	return d, x
}

// TestCompact: P29.4 and P29.1, a change to the state's bytes: then there are no records, and it is opened as it was.
func TestCompact(t *testing.T) {
	for _, n := range nodes() {
		d, x := formatted(t, n, 20000)
		compacts(t, x)
		list := [][]input.Input{
			1: {text(4, 1, 1, msg.Of(of(2, 1, 1))), checkoutOf(1)}, 2: {foundOf(3), orderOf(1, 3, add)}, 3: {foundOf(3), text(2, 3, 1, msg.Ask(4, 3))}, 4: {text(2, 4, 1, msg.Of(of(2, 1, 1)))},
			5: {text(3, 5, 1, msg.Of(of(3, 1, 1)))}, 6: {checkoutOf(2), text(9, 6, 1, msg.Of(of(2, 1, 1)))}, 9: {text(12, 9, 1, msg.Of(of(12, 1, 1)))}, 12: {joinOf(3, 2), text(2, 12, 1, msg.End(3, 0))},
		}[n]
		for _, y := range list {
			x.Do(y)
		}
		syncs(t, x)
		was := saved(x)
		if was != before(t, n, list...) || x.Log().All() != len(list) {
			t.Fatalf("the node %d: %x", n, was)
		}
		compacts(t, x)
		parts, records := checkpoint(t, d)
		if len(parts) != 1 || string(parts[0]) != was || records != 0 || saved(x) != was {
			t.Fatalf("the node %d: %x %d, not %x", n, parts, records, was)
		}
		if !x.Sure() || x.Log().Gen() != 3 || x.Log().All() != len(list) || x.Log().Room() != 9984-9-len(was) {
			t.Errorf("the node %d: %v %d %d %d", n, x.Sure(), x.Log().Gen(), x.Log().All(), x.Log().Room())
		}
		d.Crash(0)
		y := opened(t, n, d)
		if saved(y) != was || y.Log().Gen() != 3 || y.Log().Room() != x.Log().Room() {
			t.Fatalf("the node %d: opened otherwise", n)
		}
		for _, z := range []input.Input{foundOf(7), checkoutOf(3)} { // and it goes on
			a, r, e := x.Do(z)
			if a != len(list)+1 || e != api.OK {
				t.Fatalf("Do: %d %v %v", a, r, e)
			}
			syncs(t, x)
			if y := opened(t, n, d); saved(y) != saved(x) || saved(y) != before(t, n, append(list, z)...) {
				t.Fatalf("the node %d: it does not go on", n)
			}
			list = append(list, z)
		}
	}
}

// TestCompactBusy: P29.4, ErrBusy, if it is not sure: of records that wait, or in a change; ahead of ErrFull.
func TestCompactBusy(t *testing.T) {
	d, x := formatted(t, 2, 9000)
	does(t, x, foundOf(3), api.OK)
	keeps(t, d, x, api.ErrBusy)
	syncs(t, x)
	if e := x.Compact(); e != api.OK {
		t.Fatalf("Compact: %v", e)
	}
	for x.Log().Stage() > 0 {
		keeps(t, d, x, api.ErrBusy)
		x.Step()
	}
	does(t, x, foundOf(4), api.OK)
	x.State().Links().Send(3, make([]byte, 1800))
	x.State().Links().Send(3, make([]byte, 1800))
	x.State().Links().Send(3, make([]byte, 1800))
	x.State().Shard().Soil()
	keeps(t, d, x, api.ErrBusy)
	syncs(t, x)
	keeps(t, d, x, api.ErrFull)
	if n, e := x.Step(); n != 0 || e != api.ErrNone {
		t.Errorf("Step: %d %v", n, e)
	}
}

// TestCompactFull: P29.4, the log's error: ErrFull, if the state's parts do not fit into an area; the shard is as unclean as it was.
func TestCompactFull(t *testing.T) {
	for over := -1; over <= 2; over++ {
		for _, unclean := range []bool{false, true} {
			d, x := joined(t, 32+2*6000)
			fill(t, x, 6000-9+over)
			if unclean {
				x.State().Shard().Soil()
			}
			if over > 0 {
				keeps(t, d, x, api.ErrFull)
				if x.Unclean() != unclean || x.State().Shard().Unclean() != unclean || x.Log().Stage() != 0 || !x.Sure() {
					t.Errorf("%d bytes over: unclean %v, not %v", over, x.Unclean(), unclean)
				}
				continue
			}
			compacts(t, x)
			if x.Unclean() {
				t.Errorf("it is unclean")
			}
			if y := opened(t, 2, d); saved(y) != saved(x) || y.Unclean() {
				t.Errorf("%d bytes over: opened otherwise", over)
			}
		}
	}
}

// TestParts: P29.4, the parts have 50000 bytes each, but the last one.
func TestParts(t *testing.T) {
	for size, want := range map[int][]int{49999: {49999}, 50000: {50000}, 50001: {50000, 1}, 99999: {50000, 49999}, 100000: {50000, 50000}, 100001: {50000, 50000, 1}, 129000: {50000, 50000, 29000}} {
		d, x := joined(t, 262144)
		fill(t, x, size)
		compacts(t, x)
		parts, records := checkpoint(t, d)
		if len(parts) != len(want) || records != 0 {
			t.Fatalf("%d bytes: %d parts", size, len(parts))
		}
		for i, p := range parts {
			if len(p) != want[i] {
				t.Errorf("%d bytes: %d in the part %d, not %d", size, len(p), i, want[i])
			}
		}
		if string(bytes.Join(parts, nil)) != saved(x) {
			t.Errorf("%d bytes: not the state's", size)
		}
		if y := opened(t, 2, d); saved(y) != saved(x) {
			t.Errorf("%d bytes: opened otherwise", size)
		}
	}
}

// TestStep: P29.4, Step is the log's.
func TestStep(t *testing.T) {
	d, x := formatted(t, 5, 9000)
	was := lookAt(d, x)
	if n, e := x.Step(); n != 0 || e != api.ErrNone || lookAt(d, x) != was {
		t.Errorf("Step: %d %v", n, e)
	}
	x.Compact()
	if n, e := x.Log().Step(); n != 2 || e != api.OK { // it is one and the same
		t.Errorf("the log's Step: %d %v", n, e)
	}
	if n, e := x.Step(); n != 3 || e != api.OK || x.Log().Gen() != 1 {
		t.Errorf("Step: %d %v", n, e)
	}
	x.Step()
	if n, e := x.Step(); n != 5 || e != api.OK || x.Log().Gen() != 2 {
		t.Errorf("Step: %d %v", n, e)
	}
}

// TestUnclean: P29.1 and P29.4, a node is unclean, as its shard is; Compact makes it clean; others than shards are not.
func TestUnclean(t *testing.T) {
	for _, n := range nodes() {
		_, x := formatted(t, n, 20000)
		if x.Unclean() {
			t.Errorf("the node %d is unclean", n)
		}
		x.State().Shard().Soil()
		if is := x.State().Kind() == 2; x.Unclean() != is {
			t.Errorf("the node %d: unclean: %v", n, x.Unclean())
		}
		if e := x.Compact(); e != api.OK || x.Unclean() {
			t.Errorf("the node %d: %v, unclean: %v", n, e, x.Unclean())
		}
	}
}

// secret is a price whose bytes stand nowhere else.
const secret = 1.2345678901234567e77

// priced is the op with that price.
var priced = op.Op{Kind: 6, Sku: 7, Price: secret}

// has tells whether the price stands on a disk.
func has(d *disk.Disk) bool {
	b, _ := d.Read(0, d.Size())
	o := op.Event{Label: of(2, 1, 1), Op: priced}
	e, _ := op.Write(o)
	return bytes.Contains(b, e[len(e)-8:])
}

// left is the shard 12, that took the price, an order of its own too, and left the seller; it is sure, and unclean.
func left(t *testing.T) (*disk.Disk, *Node) {
	t.Helper()
	d, x := formatted(t, 12, 20000)
	does(t, x, joinOf(3, 2), api.OK)
	does(t, x, text(2, 12, 1, msg.Part(op.Event{Label: of(2, 1, 1), Op: priced})), api.OK)
	does(t, x, text(2, 12, 2, msg.End(3, 1)), api.OK)
	syncs(t, x)
	compacts(t, x) // so that it stands in a checkpoint, too
	does(t, x, orderOf(1, 3, priced), api.OK)
	does(t, x, ack(2, 12, 2), api.OK)
	does(t, x, leaveOf(3), api.OK)
	if x.Unclean() || !has(d) {
		t.Fatalf("it left ahead of being told so")
	}
	does(t, x, text(2, 12, 3, msg.Ask(8, 3)), api.OK)
	syncs(t, x)
	if !x.Unclean() || !has(d) {
		t.Fatalf("unclean: %v; on the disk: %v", x.Unclean(), has(d))
	}
	return d, x
}

// TestWiped: P29.6 and P6, behind a change of five steps nothing of what an unclean shard purged stands on the disk.
func TestWiped(t *testing.T) {
	d, x := left(t)
	for range 2 { // it is unclean, however often it is opened, till a change is over
		d.Crash(0)
		if x = opened(t, 12, d); !x.Unclean() || !has(d) {
			t.Fatalf("unclean: %v; on the disk: %v", x.Unclean(), has(d))
		}
	}
	compacts(t, x)
	if x.Unclean() || has(d) {
		t.Fatalf("unclean: %v; on the disk: %v", x.Unclean(), has(d))
	}
	d.Crash(0)
	if y := opened(t, 12, d); has(d) || y.Unclean() || saved(y) != saved(x) {
		t.Errorf("behind a crash: unclean: %v; on the disk: %v", y.Unclean(), has(d))
	}
}

// TestWipedCrash: P29.6 and P29.5, wherever a crash ends a change: it is as ahead of the change, and unclean, or as behind it; behind the next change nothing of it stands there.
func TestWipedCrash(t *testing.T) {
	clean, old, fresh := "", 0, 0
	for steps := range 6 {
		for _, last := range []int{0, 1, 9, 15, 16, 17, 400, 9000, 30000} {
			d, x := left(t)
			unclean := saved(x)
			x.Compact()
			clean = saved(x)
			for range steps {
				x.Step()
			}
			d.Crash(last)
			y := opened(t, 12, d)
			switch {
			case saved(y) == unclean && y.Unclean() && y.Log().Gen() == 2:
				old++
			case saved(y) == clean && !y.Unclean() && y.Log().Gen() == 3:
				fresh++
			default:
				t.Fatalf("%d steps, %d bytes: %x, unclean %v", steps, last, saved(y), y.Unclean())
			}
			compacts(t, y)
			if has(d) || y.Unclean() || saved(y) != clean {
				t.Errorf("%d steps, %d bytes: it stands there", steps, last)
			}
		}
	}
	if old < 20 || fresh < 20 {
		t.Errorf("%d %d: of little worth", old, fresh)
	}
}

// TestDeep: P29.1, a state of which the checkpoint is many bytes is read, whatever they are, or told to be none.
func TestDeep(t *testing.T) {
	for _, size := range []int{1, 49999, 50000, 60000} {
		d := logOf(t, [][]byte{[]byte(strings.Repeat("\x00", size))}, nil)
		none(t, Open, great(), 2, d, api.ErrForm)
	}
	s, _ := state.New(great(), 2)
	s.Shard().Found(3)
	d := logOf(t, [][]byte{s.Save()}, bytesOf(t, orderOf(1, 3, add)))
	if x := opened(t, 2, d); saved(x) != before(t, 2, foundOf(3), orderOf(1, 3, add)) {
		t.Errorf("%x", saved(x))
	}
}

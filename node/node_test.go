package node

import (
	"bytes"
	"math"
	"slices"
	"testing"

	"trug/api"
	"trug/disk"
	"trug/input"
	"trug/label"
	"trug/msg"
	"trug/op"
	"trug/packet"
	"trug/state"
	"trug/step"
	"trug/tree"
	"trug/wal"
)

// great is a tree of all kinds: the homes 1 and 6; the shards 2, 3 and 12; the serializers 4, 5 and 9 in a row; at the others nobody.
func great() tree.Tree {
	return tree.Tree{Kinds: [12]int{1, 2, 2, 3, 3, 1, 0, 0, 3, 0, 0, 2}, Edges: []tree.Edge{
		{A: 1, B: 4}, {A: 2, B: 4}, {A: 4, B: 5}, {A: 3, B: 5}, {A: 5, B: 9}, {A: 9, B: 6}, {A: 12, B: 9},
	}}
}

// nodes is its nodes.
func nodes() []int { return []int{1, 2, 3, 4, 5, 6, 9, 12} }

// add is an op.
var add = op.Op{Kind: 1, Sku: 5, Qty: 2}

// orderOf, foundOf, joinOf, leaveOf, checkoutOf and packetOf are inputs.
func orderOf(cart, seller int, o op.Op) input.Input {
	return input.Input{Kind: 1, Cart: cart, Seller: seller, Op: o}
}

func foundOf(seller int) input.Input { return input.Input{Kind: 2, Seller: seller} }

func joinOf(seller, node int) input.Input { return input.Input{Kind: 3, Seller: seller, Node: node} }

func leaveOf(seller int) input.Input { return input.Input{Kind: 4, Seller: seller} }

func checkoutOf(cart int) input.Input { return input.Input{Kind: 5, Cart: cart} }

func packetOf(p packet.Packet) input.Input { return input.Input{Kind: 6, Packet: p} }

// text is the packet of a message, ack that of an acknowledgement.
func text(from, to int, seq uint64, m msg.Msg) input.Input {
	b, _ := msg.Write(m)
	return packetOf(packet.Packet{From: from, To: to, Seq: seq, Data: b})
}

func ack(from, to int, seq uint64) input.Input {
	return packetOf(packet.Packet{Ack: true, From: from, To: to, Seq: seq})
}

// of is the Nth event's label of a node, for a cart, at the seller 3.
func of(node, cart int, n uint32) label.Label {
	l := label.Label{Time: uint64(n) + 6, Node: node, N: n, Cart: cart, Seller: 3}
	l.Deps[node-1] = n - 1
	return l
}

// diskOf is a disk of so many bytes.
func diskOf(t *testing.T, size int) *disk.Disk {
	t.Helper()
	d, e := disk.New(size)
	if e != api.OK {
		t.Fatalf("disk.New(%d): %v", size, e)
	}
	return d
}

// formatted is a node of the great tree, to which nothing happened, on a disk of so many bytes.
func formatted(t *testing.T, n, size int) (*disk.Disk, *Node) {
	t.Helper()
	d := diskOf(t, size)
	x, e := Format(great(), n, d)
	if x == nil || e != api.OK {
		t.Fatalf("Format: %v", e)
	}
	return d, x
}

// opened is a node of what a disk's log says.
func opened(t *testing.T, n int, d *disk.Disk) *Node {
	t.Helper()
	x, e := Open(great(), n, d)
	if x == nil || e != api.OK {
		t.Fatalf("Open: %v", e)
	}
	return x
}

// saved is the bytes of a node's state.
func saved(x *Node) string { return string(x.State().Save()) }

// before is the bytes of the state to which inputs happened.
func before(t *testing.T, n int, l ...input.Input) string {
	t.Helper()
	s, e := state.New(great(), n)
	if e != api.OK {
		t.Fatalf("New: %v", e)
	}
	for _, y := range l {
		step.Do(s, y)
	}
	return string(s.Save())
}

// does lets an input happen, that is written.
func does(t *testing.T, x *Node, y input.Input, want api.Errno) step.Reply {
	t.Helper()
	all, room := x.Log().All(), x.Log().Room()
	b, _ := input.Write(y)
	n, r, e := x.Do(y)
	if e != api.OK || n != all+1 || x.Log().All() != n || x.Log().Room() != room-len(b)-9 || r.Err != want {
		t.Fatalf("Do of %v: %d %v %v, not %v; All %d, Room %d, ahead %d %d", y, n, r, e, want, x.Log().All(), x.Log().Room(), all, room)
	}
	return r
}

// look is all that a disk and a node are.
type look struct {
	disk                  string
	waits, flushes, wrote int
	state                 string
	all, sure, room       int
	stage, answers        int
	gen                   uint32
	unclean               bool
}

// lookAt looks at a disk, and at a node, if it is not nil.
func lookAt(d *disk.Disk, x *Node) look {
	l := look{}
	b, _ := d.Read(0, d.Size())
	l.disk, l.waits = string(b), d.Waits()
	l.flushes, l.wrote = d.Counts()
	if x == nil {
		return l
	}
	g := x.Log()
	l.state, l.all, l.sure, l.room, l.stage, l.gen = saved(x), g.All(), g.Sure(), g.Room(), g.Stage(), g.Gen()
	l.answers, l.unclean = len(x.waits), x.Unclean()
	return l
}

// refuses asks that an input is refused, and that nothing has changed.
func refuses(t *testing.T, d *disk.Disk, x *Node, y input.Input, want api.Errno) {
	t.Helper()
	was := lookAt(d, x)
	if n, r, e := x.Do(y); n != 0 || !step.Same(r, step.Reply{}) || e != want {
		t.Fatalf("Do of %.200v: %d %v %v, not %v", y, n, r, e, want)
	}
	if is := lookAt(d, x); is != was {
		t.Fatalf("Do of %.200v: it changed: %.300v, not %.300v", y, is, was)
	}
}

// idles asks that an input is idle, what comes of it, and that nothing has changed.
func idles(t *testing.T, d *disk.Disk, x *Node, y input.Input, want api.Errno) {
	t.Helper()
	was := lookAt(d, x)
	if n, r, e := x.Do(y); n != 0 || !step.Same(r, step.Reply{Err: want}) || e != api.OK {
		t.Fatalf("Do of %v: %d %v %v, not %v", y, n, r, e, want)
	}
	if is := lookAt(d, x); is != was {
		t.Fatalf("Do of %v: it changed: %.300v, not %.300v", y, is, was)
	}
}

// syncs makes a node sure.
func syncs(t *testing.T, x *Node) {
	t.Helper()
	if e := x.Sync(); e != api.OK || !x.Sure() || x.Log().Sure() != x.Log().All() {
		t.Fatalf("Sync: %v %v", e, x.Sure())
	}
}

// numbers is numbers, of which many are no node's.
func numbers() []int {
	return []int{math.MinInt, -1, 0, 1, 2, 3, 4, 5, 6, 7, 8, 9, 10, 11, 12, 13, 1 << 32, 1<<32 + 2, math.MaxInt}
}

// wrong is inputs that may not be, or that have no bytes.
func wrong() []input.Input {
	far := ack(4, 1, 1)
	far.Seller = 1
	return []input.Input{
		{}, {Kind: 7}, {Kind: -1}, {Kind: math.MaxInt}, {Kind: 1}, {Kind: 5}, {Kind: 6}, foundOf(0), foundOf(13), leaveOf(-1), joinOf(3, 0), joinOf(3, 13), checkoutOf(0), checkoutOf(13),
		orderOf(1, 3, op.Op{}), orderOf(0, 3, add), orderOf(1, 13, add), far, ack(1, 1, 1), ack(0, 1, 1), ack(4, 1, 0), ack(4, 13, 1),
		packetOf(packet.Packet{From: 4, To: 1, Seq: 1}), packetOf(packet.Packet{From: 4, To: 2, Seq: 1, Data: make([]byte, 1800)}), packetOf(packet.Packet{From: 4, To: 1, Seq: 1, Data: make([]byte, 1801)}),
	}
}

// TestExample: the document's example: Do, Sync, Answers: the reply.
func TestExample(t *testing.T) {
	_, x := formatted(t, 2, 40000)
	n, r, e := x.Do(foundOf(3))
	if n != 1 || !step.Same(r, step.Reply{}) || e != api.OK || len(x.Answers()) != 0 || x.Sure() {
		t.Fatalf("Do: %d %v %v", n, r, e)
	}
	syncs(t, x)
	if l := x.Answers(); len(l) != 1 || l[0].Number != 1 || !step.Same(l[0].Reply, step.Reply{}) {
		t.Errorf("Answers: %v", l)
	}
	if x.State().Shard().Peers().State(3) != 2 {
		t.Errorf("it did not happen")
	}
}

// TestNil: P29.1 and P1, of nil, or one that no call made.
func TestNil(t *testing.T) {
	for _, x := range []*Node{nil, {}} {
		if x.Number() != 0 || x.State() != nil || x.Log() != nil || x.Sure() || x.Unclean() || x.Answers() != nil || x.Packets() != nil {
			t.Errorf("of nil: something")
		}
		for _, y := range append(wrong(), foundOf(3), ack(1, 2, 1), orderOf(1, 3, add)) {
			if n, r, e := x.Do(y); n != 0 || !step.Same(r, step.Reply{}) || e != api.ErrNil {
				t.Errorf("Do: %d %v %v", n, r, e)
			}
		}
		if n, e := x.Step(); n != 0 || e != api.ErrNil {
			t.Errorf("Step: %d %v", n, e)
		}
		if e := x.Sync(); e != api.ErrNil {
			t.Errorf("Sync: %v", e)
		}
		if e := x.Compact(); e != api.ErrNil {
			t.Errorf("Compact: %v", e)
		}
		if x.Number() != 0 || x.State() != nil || x.Log() != nil || x.Sure() || x.Unclean() {
			t.Errorf("of nil: something, behind calls")
		}
	}
}

// TestFormat: P29.1, a node to which nothing happened, whatever stood on the disk.
func TestFormat(t *testing.T) {
	for _, n := range nodes() {
		for _, size := range []int{64, 65, 8000, 262144} {
			d := diskOf(t, size)
			d.Write(0, bytes.Repeat([]byte{0x5A}, size))
			d.Flush()
			d.Write(3, []byte("waits"))
			x, e := Format(great(), n, d)
			if x == nil || e != api.OK || x.Number() != n || saved(x) != before(t, n) || x.State().Node() != n {
				t.Fatalf("Format: %v", e)
			}
			if !x.Sure() || x.Unclean() || len(x.Answers()) != 0 || len(x.Packets()) != 0 || d.Waits() != 0 {
				t.Errorf("the node %d: not as one to which nothing happened", n)
			}
			l := x.Log()
			if l.All() != 0 || l.Sure() != 0 || l.Stage() != 0 || l.Gen() != 1 || l.Room() != (size-32)/2 {
				t.Errorf("its log: %d %d %d %d %d", l.All(), l.Sure(), l.Stage(), l.Gen(), l.Room())
			}
			if x.State() != x.State() || x.Log() != l {
				t.Errorf("not one and the same")
			}
			d.Crash(0)
			if y := opened(t, n, d); saved(y) != saved(x) || y.Number() != n || !y.Sure() {
				t.Errorf("the node %d: opened otherwise", n)
			}
		}
	}
}

// none: of a tree, a node and a disk Format and Open tell an error, and nothing has changed.
func none(t *testing.T, f func(tree.Tree, int, *disk.Disk) (*Node, api.Errno), tr tree.Tree, n int, d *disk.Disk, want api.Errno) {
	t.Helper()
	was := lookAt(d, nil)
	if x, e := f(tr, n, d); x != nil || e != want {
		t.Fatalf("of the node %d: %v %v, not %v", n, x, e, want)
	}
	if is := lookAt(d, nil); is != was {
		t.Fatalf("of the node %d: the disk changed: %.200v, not %.200v", n, is, was)
	}
}

// TestErrors: P29.1, of several errors the state's first: ErrForm, ErrNode; then the log's.
func TestErrors(t *testing.T) {
	loose := tree.Tree{Kinds: great().Kinds}
	blank := diskOf(t, 400)
	blank.Write(20, []byte("something"))
	whole, _ := formatted(t, 2, 9000)
	for _, d := range []*disk.Disk{nil, {}, blank, whole} {
		for _, n := range numbers() {
			none(t, Format, loose, n, d, api.ErrForm)
			none(t, Open, loose, n, d, api.ErrForm)
			if n < 1 || n > 12 || great().Kinds[n-1] == 0 {
				none(t, Format, great(), n, d, api.ErrNode)
				none(t, Open, great(), n, d, api.ErrNode)
				continue
			}
			switch {
			case d.Size() == 0:
				none(t, Format, great(), n, d, api.ErrNil)
				none(t, Open, great(), n, d, api.ErrNil)
			case d == blank:
				none(t, Open, great(), n, d, api.ErrNone)
			}
		}
		none(t, Format, tree.Tree{}, 1, d, api.ErrNode)
		none(t, Open, tree.Tree{}, 1, d, api.ErrNode)
	}
}

// logOf is a disk with a log of these parts, and of these records, and something torn behind it.
func logOf(t *testing.T, parts, records [][]byte) *disk.Disk {
	t.Helper()
	d := diskOf(t, 200000)
	l, e := wal.Format(d)
	if e == api.OK && len(parts) > 0 {
		e = l.Begin(parts)
		for l.Stage() > 0 {
			l.Step()
		}
	}
	for _, b := range records {
		l.Append(b)
	}
	l.Append([]byte("torn"))
	d.Crash(d.Waits() - 1)
	if e != api.OK {
		t.Fatalf("the log: %v", e)
	}
	return d
}

// bytesOf is the bytes of inputs.
func bytesOf(t *testing.T, l ...input.Input) [][]byte {
	t.Helper()
	var out [][]byte
	for _, y := range l {
		b, e := input.Write(y)
		if e != api.OK {
			t.Fatalf("Write of %v: %v", y, e)
		}
		out = append(out, b)
	}
	return out
}

// TestOpenForm: P29.1, ErrForm, if the checkpoint is no state's bytes, or a record is no input; the disk is as it was.
func TestOpenForm(t *testing.T) {
	good := bytesOf(t, foundOf(3), orderOf(1, 3, add))
	shard := []byte(before(t, 2, foundOf(3)))
	for what, d := range map[string]*disk.Disk{
		"an empty part":                logOf(t, [][]byte{{}}, good),
		"a part that is none":          logOf(t, [][]byte{[]byte("x")}, good),
		"another node's":               logOf(t, [][]byte{[]byte(before(t, 3, foundOf(3)))}, good),
		"a home's":                     logOf(t, [][]byte{[]byte(before(t, 1))}, nil),
		"cut":                          logOf(t, [][]byte{shard[:len(shard)-1]}, nil),
		"longer":                       logOf(t, [][]byte{shard, {0}}, nil),
		"twice":                        logOf(t, [][]byte{shard, shard}, nil),
		"a record that is none":        logOf(t, nil, [][]byte{[]byte("x")}),
		"a record that is none, last":  logOf(t, [][]byte{shard}, append(slices.Clone(good), []byte{0})),
		"a record that is none, first": logOf(t, [][]byte{shard}, append([][]byte{{7, 3}}, good...)),
		"a record that is cut":         logOf(t, nil, append(slices.Clone(good), good[1][:len(good[1])-1])),
		"a record that is longer":      logOf(t, nil, append(slices.Clone(good), append(slices.Clone(good[1]), 0))),
	} {
		if _, _, _, e := wal.Open(copyOf(d)); e != api.OK {
			t.Fatalf("%s: the log is not opened: %v", what, e)
		}
		t.Log(what)
		none(t, Open, great(), 2, d, api.ErrForm)
	}
}

// TestOpenLog: P29.1, the log's Open's errors.
func TestOpenLog(t *testing.T) {
	d := logOf(t, nil, bytesOf(t, foundOf(3), foundOf(4)))
	d.Write(32+4, []byte{9}) // the first record's first byte
	none(t, Open, great(), 2, d, api.ErrSum)
	d = logOf(t, nil, bytesOf(t, foundOf(3), foundOf(4)))
	d.Write(32+1, []byte{0}) // its Kind
	none(t, Open, great(), 2, d, api.ErrForm)
	d.Write(0, make([]byte, 32)) // no slot
	none(t, Open, great(), 2, d, api.ErrNone)
}

// TestOpen: P29.1, a node of what the log says: of the checkpoint, or a new one, to which the records happened, in order; nothing waits.
func TestOpen(t *testing.T) {
	list := []input.Input{foundOf(3), orderOf(1, 3, add), text(3, 2, 1, msg.Ask(4, 3)), leaveOf(7), foundOf(4), orderOf(2, 4, op.Op{Kind: 6, Sku: 1, Price: math.NaN()}), ack(4, 2, 1)}
	for from := range len(list) + 1 {
		for to := from; to <= len(list); to++ {
			var parts [][]byte
			if from > 0 {
				parts = [][]byte{[]byte(before(t, 2, list[:from]...))}
			}
			d := logOf(t, parts, bytesOf(t, list[from:to]...))
			x := opened(t, 2, d)
			if saved(x) != before(t, 2, list[:to]...) || x.Number() != 2 || x.State().Node() != 2 {
				t.Fatalf("from %d to %d: %x", from, to, saved(x))
			}
			if len(x.Answers()) != 0 || !x.Sure() || x.Log().All() != 0 || x.Log().Stage() != 0 || x.Unclean() {
				t.Errorf("from %d to %d: something waits", from, to)
			}
			if does(t, x, foundOf(9), api.OK); len(x.Answers()) != 0 || x.Sure() { // its log is the disk's
				t.Errorf("it is sure of what waits")
			}
			syncs(t, x)
			if l := x.Answers(); len(l) != 1 || l[0].Number != 1 {
				t.Errorf("Answers: %v", l)
			}
			d.Crash(0)
			if y := opened(t, 2, d); saved(y) != saved(x) {
				t.Fatalf("from %d to %d: opened otherwise", from, to)
			}
		}
	}
}

// TestOpenTorn: P29.1, a log that is opened writes noughts behind its tail: what a torn frame left does not come back.
func TestOpenTorn(t *testing.T) {
	d := logOf(t, nil, bytesOf(t, foundOf(3)))
	x := opened(t, 2, d)
	syncs(t, x)
	areas, _ := wal.Areas(d)
	if b := areas[0][11:]; !bytes.Equal(b, make([]byte, len(b))) {
		t.Errorf("behind the tail: %.40x", b)
	}
}

// TestDoForm: P29.2, ErrForm, if it may not be, or has no bytes; ahead of all else.
func TestDoForm(t *testing.T) {
	for _, n := range nodes() {
		d, x := formatted(t, n, 9000)
		for range 2 {
			for _, y := range wrong() {
				refuses(t, d, x, y, api.ErrForm)
			}
			x.Compact()
		}
		small, z := formatted(t, n, 64)
		for _, y := range wrong() {
			refuses(t, small, z, y, api.ErrForm)
		}
	}
}

// TestIdle: P29.2, what is idle is not written, but told; also while the log has a change, or no room.
func TestIdle(t *testing.T) {
	d, x := formatted(t, 2, 9000)
	does(t, x, foundOf(3), api.OK)
	does(t, x, text(3, 2, 1, msg.Ask(4, 3)), api.OK)
	does(t, x, ack(3, 2, 1), api.OK)
	ask := func() {
		t.Helper()
		idles(t, d, x, text(3, 2, 1, msg.Ask(4, 3)), api.OK) // it was taken ahead
		idles(t, d, x, text(3, 2, 3, msg.Ask(4, 3)), api.ErrAway)
		idles(t, d, x, text(4, 2, 1, msg.Ask(4, 3)), api.ErrNode) // of no shard
		idles(t, d, x, text(3, 12, 1, msg.Ask(4, 3)), api.ErrNode)
		idles(t, d, x, packetOf(packet.Packet{From: 3, To: 2, Seq: 2, Data: []byte{0}}), api.ErrForm)
		idles(t, d, x, ack(3, 2, 1), api.OK) // nothing is acknowledged
		idles(t, d, x, ack(3, 2, 9), api.ErrAway)
		idles(t, d, x, ack(12, 2, 1), api.ErrNone)
	}
	ask()
	syncs(t, x)
	if e := x.Compact(); e != api.OK {
		t.Fatalf("Compact: %v", e)
	}
	for x.Log().Stage() > 0 {
		ask()
		refuses(t, d, x, text(3, 2, 2, msg.Ask(4, 3)), api.ErrBusy)
		x.Step()
	}
	d, x = formatted(t, 2, 64)
	refuses(t, d, x, text(3, 2, 1, msg.Ask(4, 3)), api.ErrFull)
	idles(t, d, x, ack(3, 2, 1), api.ErrNone)
	idles(t, d, x, packetOf(packet.Packet{From: 3, To: 2, Seq: 1, Data: []byte{0}}), api.ErrForm)
}

// TestRefused: P29.2, what the shard, or the home, refuses is not idle, but written: its reply, with an error, waits.
func TestRefused(t *testing.T) {
	d, x := formatted(t, 2, 9000)
	does(t, x, orderOf(1, 3, add), api.ErrAway)
	does(t, x, leaveOf(3), api.ErrNone)
	does(t, x, joinOf(3, 1), api.ErrNode)
	does(t, x, checkoutOf(1), api.ErrNode) // it is no home
	if saved(x) != before(t, 2) || d.Waits() == 0 {
		t.Errorf("it changed")
	}
	syncs(t, x)
	l := x.Answers()
	for i, want := range []api.Errno{api.ErrAway, api.ErrNone, api.ErrNode, api.ErrNode} {
		if len(l) != 4 || l[i].Number != i+1 || !step.Same(l[i].Reply, step.Reply{Err: want}) {
			t.Fatalf("Answers: %v", l)
		}
	}
	for _, n := range []int{1, 5} {
		_, y := formatted(t, n, 9000)
		does(t, y, orderOf(1, 3, add), api.ErrNode)
		does(t, y, foundOf(3), api.ErrNode)
	}
	_, y := formatted(t, 1, 9000)
	does(t, y, checkoutOf(1), api.ErrNone)
}

// TestBusy: P29.2, ErrBusy, while the log has a change, ahead of ErrFull.
func TestBusy(t *testing.T) {
	d, x := formatted(t, 2, 3000) // there is no room for orders
	refuses(t, d, x, foundOf(3), api.ErrFull)
	if e := x.Compact(); e != api.OK {
		t.Fatalf("Compact: %v", e)
	}
	for _, want := range []int{2, 3, 4, 5, 0} {
		for _, y := range []input.Input{foundOf(3), orderOf(1, 3, add), checkoutOf(1), text(3, 2, 1, msg.Ask(4, 3))} {
			refuses(t, d, x, y, api.ErrBusy)
		}
		if n, e := x.Step(); n != want || e != api.OK {
			t.Fatalf("Step: %d %v, not %d", n, e, want)
		}
	}
	refuses(t, d, x, foundOf(3), api.ErrFull)
	does(t, x, text(3, 2, 1, msg.Ask(4, 3)), api.OK)
}

// frame is how many bytes the frame of an input's record has.
func frame(t *testing.T, y input.Input) int { return len(bytesOf(t, y)[0]) + 9 }

// TestRoom: P29.2, of what is no packet at least 4000 bytes have to be left; of a packet none.
func TestRoom(t *testing.T) {
	for _, y := range []input.Input{foundOf(3), joinOf(3, 3), leaveOf(3), orderOf(1, 3, add), orderOf(1, 3, op.Op{Kind: 6, Sku: 5, Price: 2}), checkoutOf(1)} {
		for over, want := range map[int]api.Errno{16 - 4000 - frame(t, y): api.ErrFull, -3900: api.ErrFull, -1: api.ErrFull, 0: api.OK, 1: api.OK} {
			d, x := formatted(t, 2, 32+2*(4000+frame(t, y)+over))
			if want != api.OK {
				refuses(t, d, x, y, want)
			} else if n, _, e := x.Do(y); n != 1 || e != api.OK || x.Log().Room() != 4000+over {
				t.Errorf("Do of %v: %d %v, %d are left", y, n, e, x.Log().Room())
			}
		}
	}
	y := text(4, 1, 1, msg.Of(of(2, 1, 1)))
	for over, want := range map[int]api.Errno{-4: api.ErrFull, -1: api.ErrFull, 0: api.OK, 1: api.OK, 3999: api.OK, 4000: api.OK} {
		d, x := formatted(t, 1, 32+2*(frame(t, y)+over))
		if want != api.OK {
			refuses(t, d, x, y, want)
			continue
		}
		does(t, x, y, api.OK)
		if x.Log().Room() != over {
			t.Errorf("%d are left, not %d", x.Log().Room(), over)
		}
	}
}

// TestRoomEnds: P29.2, orders end 4000 bytes ahead of the log's end, packets there.
func TestRoomEnds(t *testing.T) {
	d, x := formatted(t, 1, 10001)
	size := frame(t, checkoutOf(1))
	for x.Log().Room()-size >= 4000 {
		does(t, x, checkoutOf(1), api.ErrNone)
	}
	refuses(t, d, x, checkoutOf(1), api.ErrFull)
	for n := uint32(1); ; n++ {
		y := text(4, 1, uint64(n), msg.Of(of(2, 1, n)))
		if frame(t, y) > x.Log().Room() {
			refuses(t, d, x, y, api.ErrFull)
			break
		}
		does(t, x, y, api.OK)
	}
	if x.Log().Room() > 40 {
		t.Errorf("%d are left", x.Log().Room())
	}
}

// TestAhead: P29.2, what happens is written ahead: the record stands on the disk, and waits.
func TestAhead(t *testing.T) {
	d, x := formatted(t, 2, 9000)
	does(t, x, foundOf(3), api.OK)
	if d.Waits() != 11 {
		t.Errorf("%d wait", d.Waits())
	}
	y := opened(t, 2, copyOf(d))
	if saved(y) != saved(x) || saved(x) != before(t, 2, foundOf(3)) {
		t.Errorf("opened: %x, not %x", saved(y), saved(x))
	}
	d.Crash(10)
	if z := opened(t, 2, d); saved(z) != before(t, 2) {
		t.Errorf("it lasted")
	}
}

// TestAnswers: P29.2, the replies that wait, of whose records the log is sure, once, in order; a packet's does not wait.
func TestAnswers(t *testing.T) {
	_, x := formatted(t, 2, 20000)
	want := []Answer{}
	ask := func(y input.Input, e api.Errno) {
		t.Helper()
		r := does(t, x, y, e)
		if y.Kind != 6 {
			want = append(want, Answer{x.Log().All(), r})
		}
	}
	same := func(a, b Answer) bool { return a.Number == b.Number && step.Same(a.Reply, b.Reply) }
	told := func(n int) {
		t.Helper()
		got := x.Answers()
		if !slices.EqualFunc(got, want[:n], same) {
			t.Fatalf("Answers: %v, not %v", got, want[:n])
		}
		for i := range got {
			got[i] = Answer{}
		}
		_ = append(got, Answer{Number: 99})
		want = want[n:]
	}
	told(0)
	ask(foundOf(3), api.OK)
	ask(text(3, 2, 1, msg.Ask(4, 3)), api.OK)
	ask(orderOf(1, 3, add), api.OK)
	told(0)
	syncs(t, x)
	ask(orderOf(1, 3, op.Op{Kind: 6, Sku: 5, Price: math.Copysign(0, -1)}), api.OK)
	ask(orderOf(1, 4, add), api.ErrAway)
	if n := x.Log().Sure(); n != 3 || x.Sure() {
		t.Fatalf("Sure: %d", n)
	}
	told(2)
	told(0)
	syncs(t, x)
	ask(orderOf(2, 3, add), api.OK)
	told(2)
	ask(ack(3, 2, 1), api.OK)
	syncs(t, x)
	ask(orderOf(2, 3, add), api.OK)
	syncs(t, x)
	x.Compact()
	x.Step()
	told(2) // also while there is a change
	for x.Log().Stage() > 0 {
		x.Step()
	}
	ask(orderOf(2, 3, add), api.OK)
	told(0)
	x.Sync()
	told(1)
	told(0)
}

// TestAnswersMany: P29.2, all that wait, however often one asks, each once.
func TestAnswersMany(t *testing.T) {
	_, x := formatted(t, 1, 30000)
	got := 0
	for i := range 500 {
		does(t, x, checkoutOf(1+i%12), api.ErrNone)
		if i%7 == 3 {
			syncs(t, x)
		}
		if i%5 == 0 {
			for _, a := range x.Answers() {
				if got++; a.Number != got {
					t.Fatalf("%v, not %d", a, got)
				}
			}
			if got != x.Log().Sure() {
				t.Fatalf("%d, not %d", got, x.Log().Sure())
			}
		}
	}
}

// TestSure: P29.1, a node is sure, if its log is, of all records, and has no change.
func TestSure(t *testing.T) {
	_, x := formatted(t, 2, 9000)
	if !x.Sure() {
		t.Errorf("a new one is not sure")
	}
	does(t, x, foundOf(3), api.OK)
	if x.Sure() {
		t.Errorf("it is sure of what waits")
	}
	syncs(t, x)
	x.Compact()
	for x.Log().Stage() > 0 {
		if x.Sure() || x.Sync() != api.OK || x.Sure() {
			t.Errorf("it is sure in the stage %d", x.Log().Stage())
		}
		x.Step()
	}
	if !x.Sure() {
		t.Errorf("it is not sure behind a change")
	}
}

// TestPackets: P29.3, nothing, if it is not sure; else all texts that were not acknowledged, and the acknowledgements of those who told something, rising.
func TestPackets(t *testing.T) {
	_, x := formatted(t, 2, 20000)
	does(t, x, foundOf(3), api.OK)
	does(t, x, text(12, 2, 1, msg.Ask(4, 3)), api.OK)
	does(t, x, text(12, 2, 2, msg.Ask(7, 9)), api.OK)
	does(t, x, text(3, 2, 1, msg.Ask(4, 3)), api.OK)
	made := does(t, x, orderOf(1, 3, add), api.OK).Event
	if l := x.Packets(); len(l) != 0 {
		t.Fatalf("ahead of Sync: %v", l)
	}
	syncs(t, x)
	packetOf := func(to int, seq uint64, m msg.Msg) packet.Packet { return text(2, to, seq, m).Packet }
	want := []packet.Packet{
		packetOf(3, 1, msg.End(3, 0)), packetOf(3, 2, msg.Hand(made)), packetOf(4, 1, msg.Of(made.Label)),
		packetOf(12, 1, msg.End(3, 0)), packetOf(12, 2, msg.Ask(9, 9)), packetOf(12, 3, msg.Hand(made)),
		ack(2, 3, 1).Packet, ack(2, 12, 2).Packet, // of 4 nothing was taken
	}
	if l := x.Packets(); !slices.EqualFunc(l, want, packet.Same) {
		t.Fatalf("Packets: %v, not %v", l, want)
	}
	for _, p := range x.Packets() {
		for i := range p.Data {
			p.Data[i] = 0xFF
		}
	}
	if l := x.Packets(); !slices.EqualFunc(l, want, packet.Same) { // they are new memory
		t.Fatalf("Packets: %v, not %v", l, want)
	}
	does(t, x, ack(12, 2, 3), api.OK)
	if l := x.Packets(); len(l) != 0 {
		t.Fatalf("ahead of Sync: %v", l)
	}
	syncs(t, x)
	want = slices.Concat(want[:3], want[6:])
	if l := x.Packets(); !slices.EqualFunc(l, want, packet.Same) {
		t.Fatalf("Packets: %v, not %v", l, want)
	}
	x.Compact()
	for x.Log().Stage() > 0 {
		if l := x.Packets(); len(l) != 0 {
			t.Fatalf("in a change: %v", l)
		}
		x.Step()
	}
	if l := x.Packets(); !slices.EqualFunc(l, want, packet.Same) {
		t.Fatalf("Packets: %v, not %v", l, want)
	}
}

// TestEmptied: P1, no call panics of a node whose parts were overwritten by such as no call made.
func TestEmptied(t *testing.T) {
	for _, n := range nodes() {
		for what := range 3 {
			d, x := formatted(t, n, 9000)
			x.Do(foundOf(3))
			switch what {
			case 0:
				*x.State() = state.State{}
			case 1:
				*x.Log() = wal.Log{}
			case 2:
				*d = disk.Disk{}
			}
			for _, y := range append(wrong(), foundOf(4), ack(4, n, 1), checkoutOf(1), text(4, n, 1, msg.Of(of(2, 1, 1)))) {
				x.Do(y)
			}
			x.Sync()
			x.Compact()
			x.Step()
			x.Packets()
			x.Answers()
			x.Unclean()
			Open(great(), n, d)
		}
	}
}

// TestOwnMemory: the rule 5, the tree and the input are not kept, nor changed.
func TestOwnMemory(t *testing.T) {
	tr, d := great(), diskOf(t, 9000)
	x, _ := Format(tr, 3, d)
	y := text(5, 3, 1, msg.Ask(4, 3))
	for i := range tr.Edges {
		tr.Edges[i] = tree.Edge{A: 1, B: 2}
	}
	does(t, x, foundOf(3), api.OK)
	does(t, x, orderOf(1, 3, add), api.OK)
	if len(x.State().Links().Queue(5)) != 1 {
		t.Errorf("the tree is kept")
	}
	y = text(2, 3, 1, msg.Ask(4, 3))
	was := slices.Clone(y.Packet.Data)
	does(t, x, y, api.OK)
	if !bytes.Equal(y.Packet.Data, was) {
		t.Errorf("the input changed")
	}
	for i := range y.Packet.Data {
		y.Packet.Data[i] = 0xFF
	}
	syncs(t, x)
	if z := opened(t, 3, d); saved(z) != saved(x) {
		t.Errorf("the input is kept")
	}
}

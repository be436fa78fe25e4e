package input

import (
	"math"
	"strconv"
	"strings"
	"testing"

	"trug/api"
	"trug/op"
	"trug/packet"
)

// nought is -0.
var nought = math.Copysign(0, -1)

// most is the greatest vector that may be.
var most = api.Vector{api.MaxCount, api.MaxCount, api.MaxCount, api.MaxCount, api.MaxCount, api.MaxCount, api.MaxCount, api.MaxCount, api.MaxCount, api.MaxCount, api.MaxCount, api.MaxCount}

// add is an op that may be.
var add = op.Op{Kind: 1, Sku: 5, Qty: 2}

// data is a packet of so many bytes.
func data(n int) packet.Packet {
	return packet.Packet{From: 1, To: 2, Seq: 3, Data: make([]byte, n)}
}

// ofOrder is an order of an op.
func ofOrder(o op.Op) Input {
	return Input{Kind: 1, Cart: 4, Seller: 5, Seen: api.Vector{7, 0, 2}, Time: 300, Op: o}
}

// some is inputs that may be, at the edges of each kind.
func some() []Input {
	list := []Input{
		{Kind: 1, Cart: 1, Seller: 1, Op: op.Op{Kind: 4}}, {Kind: 1, Cart: 12, Seller: 12, Seen: most, Time: api.MaxTime, Op: add},
		{Kind: 2, Seller: 1}, {Kind: 2, Seller: 3}, {Kind: 2, Seller: 12},
		{Kind: 3, Seller: 1, Node: 1}, {Kind: 3, Seller: 12, Node: 12}, {Kind: 3, Seller: 3, Node: 7},
		{Kind: 4, Seller: 1}, {Kind: 4, Seller: 3}, {Kind: 4, Seller: 12},
		{Kind: 5, Cart: 1}, {Kind: 5, Cart: 12, Seen: most, Time: api.MaxTime}, {Kind: 5, Cart: 4, Seen: api.Vector{11: 1}, Time: 300},
		{Kind: 6, Packet: data(1)}, {Kind: 6, Packet: data(300)}, {Kind: 6, Packet: packet.Packet{From: 12, To: 11, Seq: api.MaxTime, Data: []byte("\x00\x80\xff")}},
		{Kind: 6, Packet: packet.Packet{Ack: true, From: 1, To: 2, Seq: 3}}, {Kind: 6, Packet: packet.Packet{Ack: true, From: 12, To: 1, Seq: api.MaxTime}},
	}
	for _, o := range []op.Op{
		add, {Kind: 1, Sku: 40, Qty: 1000}, {Kind: 2, Sku: 1, Qty: -1000}, {Kind: 3, Sku: 7}, {Kind: 4}, {Kind: 5, Sku: 9, Qty: 3},
		{Kind: 6, Sku: 2}, {Kind: 6, Sku: 2, Price: nought}, {Kind: 6, Sku: 2, Price: 1.5}, {Kind: 6, Sku: 2, Price: math.Inf(-1)},
		{Kind: 6, Sku: 2, Price: math.NaN()}, {Kind: 6, Sku: 2, Price: math.Float64frombits(0xFFF0000000000001)},
	} {
		list = append(list, ofOrder(o))
	}
	return list
}

// numbers is such as are none's.
func numbers() []int {
	return []int{0, -1, 13, 1<<32 + 1, math.MinInt, math.MaxInt}
}

// wrong is inputs that may not be, by what is wrong with them.
func wrong() map[string]Input {
	list := map[string]Input{
		"nothing": {}, "the kind -1": {Kind: -1, Seller: 3}, "the kind 0 of a seller": {Seller: 3}, "the kind 7": {Kind: 7}, "the kind 7 of a seller": {Kind: 7, Seller: 3},
		"the least kind": {Kind: math.MinInt, Seller: 3}, "the greatest kind": {Kind: math.MaxInt}, "the kind 2^32 + 2": {Kind: 1<<32 + 2, Seller: 3},
		"an order without an op": ofOrder(op.Op{}), "an order whose op may not be": ofOrder(op.Op{Kind: 1, Sku: 5}), "an order of a clear with -0": ofOrder(op.Op{Kind: 4, Price: nought}),
		"no packet": {Kind: 6}, "a packet without data": {Kind: 6, Packet: data(0)}, "a packet with much data": {Kind: 6, Packet: data(1801)},
		"an ack with data": {Kind: 6, Packet: packet.Packet{Ack: true, From: 1, To: 2, Seq: 3, Data: []byte{1}}}, "a packet to itself": {Kind: 6, Packet: packet.Packet{From: 1, To: 1, Seq: 3, Data: []byte{1}}},
		"a packet of the Seq 0": {Kind: 6, Packet: packet.Packet{From: 1, To: 2, Data: []byte{1}}}, "a packet to nobody": {Kind: 6, Packet: packet.Packet{From: 1, To: 13, Seq: 3, Data: []byte{1}}},
	}
	for kind := 1; kind <= 6; kind++ {
		list["the kind alone "+strconv.Itoa(kind)] = Input{Kind: kind}
	}
	for _, kind := range []int{1, 5} {
		x := Input{Kind: kind, Cart: 4}
		if kind == 1 {
			x.Seller, x.Op = 5, add
		}
		for _, n := range numbers() {
			y := x
			y.Cart = n
			list["the cart "+strconv.Itoa(n)+", kind "+strconv.Itoa(kind)] = y
		}
		for i, n := range []uint64{api.MaxTime + 1, 1 << 63, math.MaxUint64} {
			y := x
			y.Time = n
			list["late "+strconv.Itoa(i)+", kind "+strconv.Itoa(kind)] = y
		}
		for i, n := range []uint32{api.MaxCount + 1, 1 << 31, math.MaxUint32} {
			y := x
			y.Seen[[]int{0, 7, 11}[i]] = n
			list["it saw too many "+strconv.Itoa(i)+", kind "+strconv.Itoa(kind)] = y
		}
	}
	for kind := 1; kind <= 4; kind++ {
		for _, n := range numbers() {
			x := Input{Kind: kind, Seller: n}
			switch kind {
			case 1:
				x.Cart, x.Op = 4, add
			case 3:
				x.Node = 3
				list["the node "+strconv.Itoa(n)] = Input{Kind: 3, Seller: 3, Node: n}
			}
			list["the seller "+strconv.Itoa(n)+", kind "+strconv.Itoa(kind)] = x
		}
	}
	return list
}

// more is ways in which an input gets a part more, by names.
func more() map[string]func(x *Input) {
	return map[string]func(x *Input){
		"Cart":   func(x *Input) { x.Cart = 1 },
		"Seller": func(x *Input) { x.Seller = 1 },
		"Node":   func(x *Input) { x.Node = 1 },
		"Seen":   func(x *Input) { x.Seen[11] = 1 },
		"Time":   func(x *Input) { x.Time = 1 },
		"Op":     func(x *Input) { x.Op = add },
		"Sku":    func(x *Input) { x.Op.Sku = 1 },
		"-0":     func(x *Input) { x.Op.Price = nought },
		"Packet": func(x *Input) { x.Packet = data(1) },
		"Data":   func(x *Input) { x.Packet.Data = []byte{0} },
		"Ack":    func(x *Input) { x.Packet.Ack = !x.Packet.Ack },
		"Seq":    func(x *Input) { x.Packet.Seq++ },
	}
}

// has tells which parts each kind has.
var has = [7]string{1: "Cart Seller Seen Time Op Sku -0", 2: "Seller", 3: "Seller Node", 4: "Seller", 5: "Cart Seen Time", 6: "Packet Data Ack Seq"}

// TestRight: P26.1, which inputs may be.
func TestRight(t *testing.T) {
	for _, x := range some() {
		if !Right(x) {
			t.Errorf("%v may not be", x)
		}
	}
	for what, x := range wrong() {
		if Right(x) {
			t.Errorf("%s: %v may be", what, x)
		}
	}
	if !Right(Input{Kind: 6, Packet: data(1800)}) { // though it has too many bytes to be written
		t.Errorf("the greatest packet may not be")
	}
}

// TestMore: P26.1, an input has just what its kind has: whatever else it has, it may not be.
func TestMore(t *testing.T) {
	for _, x := range some() {
		for what, change := range more() {
			if strings.Contains(" "+has[x.Kind]+" ", " "+what+" ") {
				continue
			}
			y := x
			change(&y)
			if Right(y) {
				t.Errorf("%v may be: %s", y, what)
			}
			if b, e := Write(y); len(b) != 0 || e != api.ErrForm {
				t.Errorf("Write, %s: %x %v", what, b, e)
			}
			if Same(y, x) || Same(x, y) {
				t.Errorf("Same, %s: %v", what, y)
			}
		}
	}
}

// TestEmpty: P26.1 and the rule 4, a packet's list without elements may be nil or empty.
func TestEmpty(t *testing.T) {
	for _, x := range some() {
		if len(x.Packet.Data) > 0 {
			continue
		}
		y := x
		y.Packet.Data = make([]byte, 0, 9)
		b, e := Write(y)
		if !Right(y) || !Same(x, y) || !Same(y, x) || e != api.OK || string(b) != string(raw(x)) {
			t.Errorf("%v: %x %v", y, b, e)
		}
	}
}

// bits is an input whose floats and lists stand apart, so that it may be compared.
func bits(x Input) [3]any {
	price, bytes, p := math.Float64bits(x.Op.Price), string(x.Packet.Data), x.Packet
	x.Op.Price = 0
	return [3]any{[3]any{x.Kind, x.Cart, x.Seller}, [5]any{x.Node, x.Seen, x.Time, x.Op, price}, [5]any{p.Ack, p.From, p.To, p.Seq, bytes}}
}

// TestSame: P26.1, equal in all, Prices by their bits.
func TestSame(t *testing.T) {
	list := some()
	for _, x := range wrong() {
		list = append(list, x)
	}
	for _, x := range some() {
		for _, change := range more() {
			y := x
			change(&y)
			list = append(list, y)
		}
	}
	for i, a := range list {
		if !Same(a, a) {
			t.Errorf("%v is unlike itself", a)
		}
		if i%7 > 0 {
			continue
		}
		for _, b := range list {
			if Same(a, b) != (bits(a) == bits(b)) || Same(b, a) != Same(a, b) {
				t.Errorf("Same: %v and %v", a, b)
			}
		}
	}
}

package input

import (
	"trug/api"
	"trug/op"
	"trug/packet"
	"trug/wire"
)

// Write is an input's bytes.
func Write(x Input) ([]byte, api.Errno) {
	if !Right(x) {
		return nil, api.ErrForm
	}
	b := put(x)
	if len(b) > api.MaxRecord { // of a packet with much Data
		return nil, api.ErrForm
	}
	return b, api.OK
}

// Read is the input of bytes.
func Read(b []byte) (Input, api.Errno) {
	if len(b) > api.MaxRecord {
		return Input{}, api.ErrForm
	}
	var x Input
	if wire.Read(b, func(r *wire.Reader) { x = get(r) }) != api.OK {
		return Input{}, api.ErrForm
	}
	return x, api.OK
}

// put is the bytes of an input, however many.
func put(x Input) []byte {
	w := wire.New().Num(uint64(x.Kind))
	if hasCart(x.Kind) {
		w.Num(uint64(x.Cart))
	}
	if hasSeller(x.Kind) {
		w.Num(uint64(x.Seller))
	}
	if hasNode(x.Kind) {
		w.Num(uint64(x.Node))
	}
	if hasCart(x.Kind) {
		w.Vector(x.Seen).Num(x.Time)
	}
	if hasOp(x.Kind) {
		op.PutOp(w, x.Op)
	}
	if hasPacket(x.Kind) {
		b, _ := packet.Write(x.Packet)
		w.Text(b)
	}
	return w.Bytes()
}

// get reads an input.
func get(r *wire.Reader) Input {
	x := Input{Kind: r.Small(comes)}
	if hasCart(x.Kind) {
		x.Cart = r.Small(api.MaxCarts)
	}
	if hasSeller(x.Kind) {
		x.Seller = r.Small(api.MaxSellers)
	}
	if hasNode(x.Kind) {
		x.Node = r.Small(api.MaxNodes)
	}
	if hasCart(x.Kind) {
		x.Seen = r.Vector()
		x.Time = r.Num()
	}
	if hasOp(x.Kind) {
		x.Op = op.GetOp(r)
	}
	if hasPacket(x.Kind) {
		x.Packet = getPacket(r)
	}
	r.Must(Right(x))
	return x
}

// getPacket reads a packet.
func getPacket(r *wire.Reader) packet.Packet {
	p, e := packet.Read(r.Text(api.MaxRecord))
	r.Must(e == api.OK)
	return p
}

package op

import (
	"trug/api"
	"trug/label"
	"trug/wire"
)

// PutOp writes an op behind others.
func PutOp(w *wire.Writer, o Op) {
	w.Num(uint64(o.Kind))
	if hasSku(o.Kind) {
		w.Num(uint64(o.Sku))
	}
	if hasQty(o.Kind) {
		w.Int(o.Qty)
	}
	if hasPrice(o.Kind) {
		w.Float(o.Price)
	}
}

// GetOp reads an op.
func GetOp(r *wire.Reader) Op {
	o := Op{Kind: r.Small(price)}
	if hasSku(o.Kind) {
		o.Sku = r.Small(api.MaxSku)
	}
	if hasQty(o.Kind) {
		o.Qty = r.Int()
	}
	if hasPrice(o.Kind) {
		o.Price = r.Float()
	}
	r.Must(May(o))
	return o
}

// Put writes an event behind others.
func Put(w *wire.Writer, x Event) {
	label.Put(w, x.Label)
	PutOp(w, x.Op)
}

// Get reads an event.
func Get(r *wire.Reader) Event {
	var x Event
	x.Label = label.Get(r)
	x.Op = GetOp(r)
	r.Must(Right(x))
	return x
}

// Write is an event's bytes.
func Write(x Event) ([]byte, api.Errno) {
	if !Right(x) {
		return nil, api.ErrForm
	}
	w := wire.New()
	Put(w, x)
	return w.Bytes(), api.OK
}

// Read is the event of bytes.
func Read(b []byte) (Event, api.Errno) {
	var x Event
	if wire.Read(b, func(r *wire.Reader) { x = Get(r) }) != api.OK {
		return Event{}, api.ErrForm
	}
	return x, api.OK
}

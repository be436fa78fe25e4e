package index

import (
	"trug/api"
	"trug/clock"
	"trug/label"
	"trug/wire"
)

// Save is an index's bytes.
func (x *Index) Save() []byte {
	if !x.made() {
		return nil
	}
	w := wire.New().Num(uint64(x.cart)).Num(uint64(len(x.entries)))
	for _, y := range x.entries {
		w.Num(uint64(y.Dot.Node)).Num(uint64(y.Dot.N)).Num(uint64(y.Seller))
	}
	w.Num(uint64(len(x.waits)))
	for _, l := range x.waits {
		label.Put(w, l)
	}
	return w.Bytes()
}

// Load is the index of bytes.
func Load(b []byte) (*Index, api.Errno) {
	var x *Index
	if wire.Read(b, func(r *wire.Reader) { x = get(r) }) != api.OK {
		return nil, api.ErrForm
	}
	return x, api.OK
}

// get reads an index.
func get(r *wire.Reader) *Index {
	x, e := New(r.Small(api.MaxCarts))
	r.Must(e == api.OK)
	for range r.Small(api.MaxLabels) {
		x.getEntry(r)
	}
	for range r.Small(api.MaxLabels - len(x.entries)) {
		x.getWait(r)
	}
	return x
}

// getEntry reads an entry; it came in, so its dot was the next one of its node.
func (x *Index) getEntry(r *wire.Reader) {
	var y Entry
	y.Dot.Node = r.Small(api.MaxNodes)
	y.Dot.N = uint32(r.Small(api.MaxCount))
	y.Seller = r.Small(api.MaxSellers)
	next, e := clock.Next(x.vector, y.Dot.Node)
	r.Must(e == api.OK && y.Dot == next && y.Seller != 0)
	x.enter(y)
}

// getWait reads a label that waits: it may be added, does not come in, and stands behind the others.
func (x *Index) getWait(r *wire.Reader) {
	l := label.Get(r)
	came, e := x.Add(l)
	r.Must(e == api.OK && came == 0)
	r.Must(x.waits[len(x.waits)-1] == l)
}

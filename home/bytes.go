package home

import (
	"trug/api"
	"trug/cuts"
	"trug/index"
	"trug/links"
	"trug/wire"
)

// Put writes a home behind others.
func (h *Home) Put(w *wire.Writer) {
	if !h.made() {
		return
	}
	w.Num(h.time)
	h.links.Put(w)
	for i, c := range h.carts {
		if h.isOf(i + 1) {
			w.Text(c.index.Save()).Text(c.table.Save())
		}
	}
}

// Load reads a home.
func (h *Home) Load(r *wire.Reader) {
	if !h.made() {
		return
	}
	time := uint64(r.Small(api.MaxTime))
	l := links.Get(r)
	r.Must(l.Own() == h.node)
	var carts [api.MaxCarts]held
	for i := range carts {
		if h.isOf(i + 1) {
			carts[i] = h.getCart(r, i+1)
		}
	}
	if l == nil { // of a reader that reads nothing
		return
	}
	h.time = time
	*h.links = *l // in their places, as they were handed out
	for i, c := range h.carts {
		if h.isOf(i + 1) {
			*c.index, *c.table = *carts[i].index, *carts[i].table
		}
	}
}

// getCart reads what a home has of a cart.
func (h *Home) getCart(r *wire.Reader, cart int) held {
	x, e := index.Load(r.Text(api.MaxText))
	r.Must(e == api.OK && x.Cart() == cart)
	t, e := cuts.Load(r.Text(api.MaxText))
	r.Must(e == api.OK && t.Home() == h.node && t.Other() == h.Cuts(cart).Other())
	return held{x, t}
}

package store

import (
	"slices"

	"trug/api"
	"trug/clock"
	"trug/label"
	"trug/op"
	"trug/wire"
)

// Put writes a store behind others.
func (s *Store) Put(w *wire.Writer) {
	if !s.made() {
		return
	}
	for _, v := range s.known {
		w.Vector(v)
	}
	w.Num(uint64(s.Len()))
	for _, x := range s.all() {
		op.Put(w, x)
	}
}

// Get reads a store.
func Get(r *wire.Reader) *Store {
	s := New()
	for i := range s.known {
		v := r.Vector()
		r.Must(slices.Max(v[:]) <= api.MaxCount)
		s.known[i] = v
	}
	var last label.Label
	for range r.Small(api.MaxEvents) {
		x := op.Get(r)
		r.Must(compare(last, x.Label) < 0) // rising: in one way alone
		r.Must(clock.Covers(s.Known(x.Label.Cart), label.Past(x.Label)))
		came, _ := s.Add(x)
		r.Must(came) // else one of another seller has its dot
		last = x.Label
	}
	return s
}

package links

import (
	"trug/api"
	"trug/link"
	"trug/wire"
)

// Put writes links behind others.
func (l *Links) Put(w *wire.Writer) {
	if !l.made() {
		return
	}
	peers := l.Peers()
	w.Num(uint64(l.own)).Num(uint64(len(peers)))
	for _, to := range peers {
		w.Num(uint64(to))
		l.links[to-1].Put(w)
	}
}

// Get reads links.
func Get(r *wire.Reader) *Links {
	l, e := New(r.Small(api.MaxNodes))
	r.Must(e == api.OK)
	last := 0
	for range r.Small(api.MaxNodes - 1) {
		to := r.Small(api.MaxNodes)
		r.Must(to > last && to != l.own) // rising: in one way alone
		k := *link.Get(r)
		r.Must(sentAny(k) || tookAny(k)) // else it would not be there
		l.links[to-1], last = k, to
	}
	return l
}

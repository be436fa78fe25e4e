package shard

import (
	"slices"

	"trug/api"
	"trug/links"
	"trug/peers"
	"trug/store"
	"trug/wire"
)

// Put writes a shard behind others.
func (s *Shard) Put(w *wire.Writer) {
	if !s.made() {
		return
	}
	w.Num(s.time)
	s.peers.Put(w)
	s.store.Put(w)
	s.links.Put(w)
	for _, n := range s.asked {
		w.Num(n)
	}
	unclean := uint64(0)
	if s.unclean {
		unclean = 1
	}
	w.Num(unclean)
}

// Load reads a shard.
func (s *Shard) Load(r *wire.Reader) {
	if !s.made() {
		return
	}
	time := uint64(r.Small(api.MaxTime))
	p := s.getPeers(r)
	all := getStore(r, p)
	l := links.Get(r)
	r.Must(l.Own() == s.node)
	asked := getAsked(r, p, l)
	unclean := r.Small(1) == 1
	if l == nil { // of a reader that reads nothing
		return
	}
	*s.peers, *s.store, *s.links = *p, *all, *l // in their places, as they were handed out
	s.time, s.asked, s.unclean = time, asked, unclean
}

// getPeers reads peers, who are other shards of the tree.
func (s *Shard) getPeers(r *wire.Reader) *peers.Peers {
	p := peers.Get(r)
	r.Must(p.Node() == s.node)
	for _, seller := range p.Sellers() {
		r.Must(!slices.ContainsFunc(p.Of(seller), func(n int) bool { return !s.isOther(n) }))
	}
	return p
}

// getStore reads a store, with events of those sellers alone to which a shard subscribes.
func getStore(r *wire.Reader, p *peers.Peers) *store.Store {
	all := store.Get(r)
	r.Must(!slices.ContainsFunc(all.Sellers(), func(seller int) bool { return p.State(seller) == none }))
	return all
}

// getAsked reads by which texts a shard asked to leave: of each seller that it leaves one that was sent to the peer.
func getAsked(r *wire.Reader, p *peers.Peers, l *links.Links) (asked [api.MaxSellers]uint64) {
	for i := range asked {
		n := uint64(r.Small(api.MaxTime))
		is := p.State(i+1) == leaves
		r.Must(is == (n > 0))
		r.Must(!is || isSent(l, p.Of(i + 1)[0], n))
		asked[i] = n
	}
	return asked
}

package peers

import (
	"trug/api"
	"trug/wire"
)

// mostPeers is how many peers there are of a seller at most: all nodes but its own.
const mostPeers = api.MaxNodes - 1

// Put writes subscriptions behind others.
func (p *Peers) Put(w *wire.Writer) {
	if !p.made() {
		return
	}
	w.Num(uint64(p.node))
	for i := range api.MaxSellers {
		of := p.Of(i + 1)
		w.Num(uint64(p.State(i + 1))).Num(uint64(len(of)))
		for _, n := range of {
			w.Num(uint64(n))
		}
	}
}

// Get reads subscriptions.
func Get(r *wire.Reader) *Peers {
	p, e := New(r.Small(api.MaxNodes))
	r.Must(e == api.OK)
	if e != api.OK {
		return nil // of a reader that reads nothing, to whom no fault is one
	}
	for i := range p.sellers {
		p.sellers[i] = p.get(r)
	}
	return p
}

// get reads a subscription.
func (p *Peers) get(r *wire.Reader) subscription {
	x := subscription{state: r.Small(leaves)}
	n := r.Small(mostPeers)
	r.Must(mayHave(x.state, n))
	last := 0
	for range n {
		node := r.Small(api.MaxNodes)
		r.Must(node > last && node != p.node) // rising: in one way alone
		x.peers[node-1], last = true, node
	}
	return x
}

// mayHave tells whether there may be so many peers in a state.
func mayHave(state, peers int) bool {
	switch state {
	case none:
		return peers == 0
	case joins, leaves:
		return peers == 1
	}
	return true
}

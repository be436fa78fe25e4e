package state

import (
	"slices"

	"trug/api"
	"trug/interest"
	"trug/links"
	"trug/msg"
	"trug/relay"
	"trug/tree"
	"trug/wire"
)

// ofLabel is the kind of the messages (23) that a serializer lets through.
const ofLabel = 1

// serializer is a relay, and the links through which it tells.
type serializer struct {
	tree  tree.Tree
	node  int
	relay *relay.Relay
	links *links.Links
}

// newSerializer is a serializer to which nothing happened.
func newSerializer(t tree.Tree, node int) (*serializer, api.Errno) {
	t.Edges = slices.Clone(t.Edges)
	r, e := relay.New(t, node)
	l, _ := links.New(node)
	return &serializer{tree: t, node: node, relay: r, links: l}, e
}

// Links is its links.
func (x *serializer) Links() *links.Links { return x.links }

// May tells whether a message may be heard.
func (x *serializer) May(from int, m msg.Msg) api.Errno {
	switch {
	case !msg.Right(m):
		return api.ErrForm
	case !slices.Contains(tree.Next(x.tree, x.node), from):
		return api.ErrNode
	case slices.ContainsFunc(x.toward(from, m), x.isShut):
		return api.ErrBusy
	}
	return api.OK
}

// Hear hears a message.
func (x *serializer) Hear(from int, m msg.Msg) api.Errno {
	e := x.May(from, m)
	if e != api.OK || m.Kind != ofLabel {
		return e
	}
	to, e := x.relay.Hear(from, m.Label)
	b, _ := msg.Write(m)
	for _, n := range to {
		x.links.Send(n, b)
	}
	return e
}

// Put writes a serializer behind others.
func (x *serializer) Put(w *wire.Writer) {
	x.relay.Put(w)
	x.links.Put(w)
}

// Load reads a serializer.
func (x *serializer) Load(r *wire.Reader) {
	x.relay.Load(r)
	l := links.Get(r)
	r.Must(l.Own() == x.node)
	*x.links = *l
}

// toward is the nodes to which a message goes: of labels alone there are some.
func (x *serializer) toward(from int, m msg.Msg) []int {
	if m.Kind != ofLabel {
		return nil
	}
	return interest.Toward(x.tree, x.node, from, m.Label.Cart)
}

// isShut tells whether no text may be sent to a node, which is tried on a copy of the links.
func (x *serializer) isShut(to int) bool {
	l := *x.links
	_, e := l.Send(to, []byte{0})
	return e != api.OK
}

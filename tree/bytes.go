package tree

import (
	"trug/api"
	"trug/wire"
)

// Put writes a tree behind others.
func Put(w *wire.Writer, t Tree) {
	for _, kind := range t.Kinds {
		w.Num(uint64(kind))
	}
	w.Num(uint64(len(t.Edges)))
	for _, e := range t.Edges {
		w.Num(uint64(e.A)).Num(uint64(e.B))
	}
}

// Get reads a tree.
func Get(r *wire.Reader) Tree {
	var t Tree
	for i := range t.Kinds {
		t.Kinds[i] = r.Small(serializer)
	}
	for range r.Small(mostEdges) {
		a := r.Small(api.MaxNodes)
		b := r.Small(api.MaxNodes)
		t.Edges = append(t.Edges, Edge{a, b})
	}
	r.Must(Right(t))
	return t
}

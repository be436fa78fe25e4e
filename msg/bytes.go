package msg

import (
	"trug/api"
	"trug/cuts"
	"trug/label"
	"trug/op"
	"trug/wire"
)

// What the bytes tell of a stance.
const (
	promises = iota
	proposes
)

// Write is a message's bytes.
func Write(m Msg) ([]byte, api.Errno) {
	if !Right(m) {
		return nil, api.ErrForm
	}
	w := wire.New().Num(uint64(m.Kind))
	switch {
	case hasLabel(m.Kind):
		label.Put(w, m.Label)
	case hasEvent(m.Kind):
		op.Put(w, m.Event)
	case hasSeller(m.Kind):
		w.Num(uint64(m.Seller))
	case hasStance(m.Kind):
		putStance(w.Num(uint64(m.Cart)).Num(uint64(m.Round)), m.Stance)
	}
	if hasCount(m.Kind) {
		w.Num(uint64(m.Count))
	}
	return w.Bytes(), api.OK
}

// Read is the message of bytes.
func Read(b []byte) (Msg, api.Errno) {
	var m Msg
	if wire.Read(b, func(r *wire.Reader) { m = get(r) }) != api.OK {
		return Msg{}, api.ErrForm
	}
	return m, api.OK
}

// get reads a message.
func get(r *wire.Reader) Msg {
	m := Msg{Kind: r.Small(says)}
	switch {
	case hasLabel(m.Kind):
		m.Label = label.Get(r)
	case hasEvent(m.Kind):
		m.Event = op.Get(r)
	case hasSeller(m.Kind):
		m.Seller = r.Small(api.MaxSellers)
	case hasStance(m.Kind):
		m.Cart = r.Small(api.MaxCarts)
		m.Round = r.Small(mostRound)
		m.Stance = getStance(r)
	}
	if hasCount(m.Kind) {
		m.Count = r.Small(api.MaxEvents)
	}
	r.Must(Right(m))
	return m
}

// putStance writes a stance behind others.
func putStance(w *wire.Writer, s cuts.Stance) {
	if !s.Has {
		w.Num(promises)
		return
	}
	w.Num(proposes).Num(s.Time).Vector(s.Cut)
}

// getStance reads a stance.
func getStance(r *wire.Reader) cuts.Stance {
	if r.Small(proposes) == promises {
		return cuts.Stance{}
	}
	time := r.Num()
	return cuts.Stance{Has: true, Time: time, Cut: r.Vector()}
}

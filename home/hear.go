package home

import (
	"trug/api"
	"trug/cuts"
	"trug/msg"
)

// The kinds of messages (23) that a home hears.
const (
	ofLabel  = 1
	ofStance = 10
)

// May tells whether a message may be heard.
func (h *Home) May(from int, m msg.Msg) api.Errno {
	switch {
	case !h.made():
		return api.ErrNil
	case !msg.Right(m):
		return api.ErrForm
	case h.wouldPromise(from, m) && !h.maySend(from):
		return api.ErrBusy
	case h.isFull(m):
		return api.ErrFull
	}
	return api.OK
}

// Hear hears a message.
func (h *Home) Hear(from int, m msg.Msg) api.Errno {
	if e := h.May(from, m); e != api.OK {
		return e
	}
	switch {
	case h.hasLabel(m):
		h.Index(m.Label.Cart).Add(m.Label)
		h.time = max(h.time, m.Label.Time)
	case h.hasStance(from, m):
		promises, _ := h.Cuts(m.Cart).Hear(m.Round, m.Stance)
		h.time = max(h.time, m.Stance.Time)
		if promises {
			h.tell(from, msg.Say(m.Cart, m.Round, cuts.Stance{}))
		}
	}
	return api.OK
}

// hasLabel tells whether a message is a label of a cart whose home it is.
func (h *Home) hasLabel(m msg.Msg) bool { return m.Kind == ofLabel && h.isOf(m.Label.Cart) }

// hasStance tells whether a message is a stance of a cart whose home it is, from the cart's other home.
func (h *Home) hasStance(from int, m msg.Msg) bool {
	other := h.Cuts(m.Cart).Other()
	return m.Kind == ofStance && other != 0 && from == other
}

// wouldPromise tells whether a message would make it promise: the table alone knows, so that is tried on a copy.
func (h *Home) wouldPromise(from int, m msg.Msg) bool {
	if !h.hasStance(from, m) {
		return false
	}
	t, _ := cuts.Load(h.Cuts(m.Cart).Save())
	promises, _ := t.Hear(m.Round, m.Stance)
	return promises
}

// isFull tells whether a label would come to an index that is full. Such an index takes none, so it is asked itself.
func (h *Home) isFull(m msg.Msg) bool {
	if !h.hasLabel(m) {
		return false
	}
	x := h.Index(m.Label.Cart)
	if len(x.Entries())+len(x.Waits()) < api.MaxLabels {
		return false
	}
	_, e := x.Add(m.Label)
	return e == api.ErrFull
}

package shard

import (
	"trug/api"
	"trug/label"
	"trug/msg"
	"trug/op"
)

// The kinds of messages (23) that a shard hears.
const (
	hand = iota + 2
	part
	askJoin
	end
	mayNotJoin
	askLeave
	mayLeave
	mayNotLeave
)

// May tells whether a message may be heard.
func (s *Shard) May(from int, m msg.Msg) api.Errno {
	switch {
	case !s.made():
		return api.ErrNil
	case !msg.Right(m):
		return api.ErrForm
	case !s.isOther(from):
		return api.ErrNode
	case s.isBusy(from, m):
		return api.ErrBusy
	case s.isNew(from, m) && s.store.Len() >= api.MaxEvents:
		return api.ErrFull
	}
	return api.OK
}

// Hear hears a message.
func (s *Shard) Hear(from int, m msg.Msg) api.Errno {
	if e := s.May(from, m); e != api.OK {
		return e
	}
	switch m.Kind {
	case hand, part:
		s.take(from, m)
	case askJoin:
		s.answerJoin(from, m.Seller)
	case end:
		s.peers.Joined(m.Seller, from, true)
	case mayNotJoin:
		s.refused(from, m.Seller)
	case askLeave:
		s.answerLeave(from, m.Seller)
	case mayLeave:
		s.left(from, m.Seller)
	case mayNotLeave:
		s.stays(from, m.Seller)
	}
	return api.OK
}

// isBusy tells whether a message asks for more texts than may be sent.
func (s *Shard) isBusy(from int, m msg.Msg) bool {
	switch m.Kind {
	case hand:
		return s.isNew(from, m) && !s.mayTell(s.told(from, m)...)
	case askJoin:
		return !s.maySend(from, len(s.store.Events(m.Seller))+1)
	case askLeave:
		return !s.mayTell(from)
	}
	return false
}

// comes tells whether an event comes by a message, if it is not there.
func (s *Shard) comes(from int, m msg.Msg) bool {
	seller := m.Event.Label.Seller
	switch m.Kind {
	case hand:
		return s.peers.State(seller) != none
	case part:
		return s.isThrough(from, seller, joins)
	}
	return false
}

// isNew tells whether an event comes by a message, and is not there.
func (s *Shard) isNew(from int, m msg.Msg) bool { return s.comes(from, m) && !s.has(m.Event) }

// has tells whether an event of its cart with its dot is there, whatever its seller.
func (s *Shard) has(x op.Event) bool {
	for i := range api.MaxSellers {
		if s.store.Has(x.Label.Cart, i+1, label.Dot(x.Label)) {
			return true
		}
	}
	return false
}

// told is the nodes that are told an event that came by a message.
func (s *Shard) told(from int, m msg.Msg) []int {
	seller := m.Event.Label.Seller
	if m.Kind != hand || s.peers.State(seller) != ready {
		return nil
	}
	return s.others(seller, from)
}

// take lets an event come, and tells the nodes that are told of it.
func (s *Shard) take(from int, m msg.Msg) {
	if !s.isNew(from, m) {
		return
	}
	s.store.Add(m.Event)
	s.time = max(s.time, m.Event.Label.Time)
	s.tell(msg.Hand(m.Event), s.told(from, m)...)
}

// answerJoin tells a node whether it may join, and then all that it has to know.
func (s *Shard) answerJoin(from, seller int) {
	if !s.peers.Asked(seller, from) {
		s.tell(msg.Ask(mayNotJoin, seller), from)
		return
	}
	events := s.store.Events(seller)
	for _, x := range events {
		s.tell(msg.Part(x), from)
	}
	s.tell(msg.End(seller, len(events)), from)
}

// answerLeave tells a node whether it may leave.
func (s *Shard) answerLeave(from, seller int) {
	answer := mayNotLeave
	if s.peers.Leaving(seller, from) {
		answer = mayLeave
	}
	s.tell(msg.Ask(answer, seller), from)
}

// refused is told by a node that it may not join through it.
func (s *Shard) refused(from, seller int) {
	s.peers.Joined(seller, from, false)
	if s.peers.State(seller) == none {
		s.store.Purge(seller)
	}
}

// left is told by a node that it may leave.
func (s *Shard) left(from, seller int) {
	if !s.isThrough(from, seller, leaves) {
		return
	}
	s.links.Acked(from, s.asked[seller-1]) // the node took them, for it answers the last one; they may tell of the seller
	s.asked[seller-1] = 0
	s.peers.Left(seller, from, true)
	s.store.Purge(seller)
	s.unclean = true
}

// stays is told by a node that it may not leave.
func (s *Shard) stays(from, seller int) {
	if s.peers.Left(seller, from, false) == api.OK {
		s.asked[seller-1] = 0
	}
}

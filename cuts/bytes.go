package cuts

import (
	"trug/api"
	"trug/wire"
)

// What the bytes tell of a home's stance.
const (
	nothing = iota
	promise
	proposal
)

// Save is a table's bytes.
func (t *Table) Save() []byte {
	if !t.made() {
		return nil
	}
	w := wire.New().Num(uint64(t.homes[mine])).Num(uint64(t.homes[theirs]))
	w.Num(uint64(len(t.cuts)))
	for _, c := range t.cuts {
		w.Num(uint64(c.Home)).Num(c.Time).Vector(c.Vector)
	}
	for _, s := range t.stances {
		put(w, s)
	}
	return w.Bytes()
}

// Load is the table of bytes.
func Load(b []byte) (*Table, api.Errno) {
	var t *Table
	if wire.Read(b, func(r *wire.Reader) { t = get(r) }) != api.OK {
		return nil, api.ErrForm
	}
	return t, api.OK
}

// put writes what a home said.
func put(w *wire.Writer, s said) {
	switch {
	case !s.is:
		w.Num(nothing)
	case !s.Has:
		w.Num(promise)
	default:
		w.Num(proposal).Num(s.Time).Vector(s.Cut)
	}
}

// get reads a table. All that it has is proposed and heard anew: so no table is read that these calls could not have made.
func get(r *wire.Reader) *Table {
	own := r.Small(api.MaxNodes)
	other := r.Small(api.MaxNodes)
	t, e := New(own, other)
	r.Must(e == api.OK)
	for range r.Small(api.MaxCuts) {
		t.getCut(r)
	}
	t.getStances(r)
	return t
}

// getCut reads a cut; the home that did not win may have promised.
func (t *Table) getCut(r *wire.Reader) {
	home := r.Small(api.MaxNodes)
	s := getStance(r)
	if home != t.homes[mine] {
		r.Must(home == t.homes[theirs])
		t.mustHear(r, t.next(), s)
		return
	}
	t.mustPropose(r, s)
	if t.homes[theirs] != 0 {
		t.mustHear(r, t.next(), Stance{})
	}
}

// getStances reads the stances of the next round, which do not decide it.
func (t *Table) getStances(r *wire.Reader) {
	round := t.next()
	if s := getSaid(r); s.is {
		t.mustPropose(r, s.Stance) // a promise of its own decides the round at once, so none stands here
	}
	if s := getSaid(r); s.is {
		t.mustHear(r, round, s.Stance)
	}
	r.Must(t.next() == round)
}

// mustPropose proposes what is read.
func (t *Table) mustPropose(r *wire.Reader, s Stance) {
	_, e := t.Propose(s.Time, s.Cut)
	r.Must(e == api.OK)
}

// mustHear hears what is read.
func (t *Table) mustHear(r *wire.Reader, round int, s Stance) {
	_, e := t.Hear(round, s)
	r.Must(e == api.OK)
}

// getSaid reads what a home said.
func getSaid(r *wire.Reader) said {
	switch r.Small(proposal) {
	case nothing:
		return said{}
	case promise:
		return said{is: true}
	}
	return said{true, getStance(r)}
}

// getStance reads a proposal.
func getStance(r *wire.Reader) Stance {
	time := r.Num()
	return Stance{Has: true, Time: time, Cut: r.Vector()}
}

package cuts

import (
	"math"
	"math/rand"
	"slices"
	"testing"

	"trug/api"
	"trug/clock"
)

// of is a table of a home, and another one.
func of(t *testing.T, own, other int) *Table {
	t.Helper()
	u, e := New(own, other)
	if e != api.OK || u == nil {
		t.Fatalf("New(%d, %d): %v %v", own, other, u, e)
	}
	return u
}

// pro is a stance that proposes.
func pro(time uint64, v ...uint32) Stance {
	s := Stance{Has: true, Time: time}
	copy(s.Cut[:], v)
	return s
}

// cut is a cut.
func cut(home int, time uint64, v ...uint32) Cut {
	return Cut{Home: home, Time: time, Vector: pro(time, v...).Cut}
}

// proposes asks for a proposal that is taken.
func proposes(t *testing.T, u *Table, s Stance) {
	t.Helper()
	if got, e := u.Propose(s.Time, s.Cut); got != s || e != api.OK {
		t.Fatalf("Propose(%v): %v %v", s, got, e)
	}
}

// hears asks for a stance that is heard.
func hears(t *testing.T, u *Table, round int, s Stance, promises bool) {
	t.Helper()
	if got, e := u.Hear(round, s); got != promises || e != api.OK {
		t.Fatalf("Hear(%d, %v): %v %v, want %v", round, s, got, e, promises)
	}
}

// has asks what a table has: its own stance, if there is one, and all cuts.
func has(t *testing.T, u *Table, own *Stance, all ...Cut) {
	t.Helper()
	if got := u.Cuts(); !slices.Equal(got, all) {
		t.Fatalf("Cuts: %v, want %v", got, all)
	}
	var last api.Vector
	if len(all) > 0 {
		last = all[len(all)-1].Vector
	}
	if got := u.Last(); got != last {
		t.Fatalf("Last: %v, want %v", got, last)
	}
	got, is := u.Own()
	if is != (own != nil) || !is && got != (Stance{}) || is && got != *own {
		t.Fatalf("Own: %v %v, want %v", got, is, own)
	}
}

// noPropose asks for an error of Propose, that changes nothing.
func noPropose(t *testing.T, what string, u *Table, s Stance, want api.Errno) {
	t.Helper()
	was := u.Save()
	if got, e := u.Propose(s.Time, s.Cut); got != (Stance{}) || e != want {
		t.Errorf("Propose, %s: %v %v, want %v", what, got, e, want)
	}
	if !slices.Equal(u.Save(), was) {
		t.Errorf("Propose, %s: something has changed", what)
	}
}

// noHear asks for an error of Hear, that changes nothing.
func noHear(t *testing.T, what string, u *Table, round int, s Stance, want api.Errno) {
	t.Helper()
	was := u.Save()
	if got, e := u.Hear(round, s); got || e != want {
		t.Errorf("Hear, %s: %v %v, want %v", what, got, e, want)
	}
	if !slices.Equal(u.Save(), was) {
		t.Errorf("Hear, %s: something has changed", what)
	}
}

// wrong is stances that may not be: the proposals first, of which there are so many.
func wrong() (l []Stance, proposals int) {
	l = []Stance{pro(0, 1), pro(api.MaxTime+1, 1), pro(math.MaxUint64, 1), pro(1, api.MaxCount+1), pro(1, 1, math.MaxUint32)}
	last := pro(1, 1)
	last.Cut[api.MaxNodes-1] = api.MaxCount + 1
	l = append(l, last)
	return append(l, Stance{Time: 1}, Stance{Cut: api.Vector{1}}, Stance{Cut: last.Cut}, Stance{Time: 5, Cut: api.Vector{1}}), len(l)
}

// TestNew: P11.1, of which homes there are tables.
func TestNew(t *testing.T) {
	numbers := []int{math.MinInt, -1, 13, 1 << 32, 1<<32 + 1, math.MaxInt}
	for n := range api.MaxNodes + 1 {
		numbers = append(numbers, n)
	}
	for _, own := range numbers {
		for _, other := range numbers {
			may := own >= 1 && own <= 12 && other >= 0 && other <= 12 && own != other
			u, e := New(own, other)
			if !may {
				if u != nil || e != api.ErrNode {
					t.Errorf("New(%d, %d): %v %v", own, other, u, e)
				}
				continue
			}
			if e != api.OK || u.Home() != own || u.Other() != other {
				t.Fatalf("New(%d, %d): %v %v", own, other, u, e)
			}
			has(t, u, nil)
		}
	}
}

// TestNil: P11.1 and P1, of nil, and of one that no call made.
func TestNil(t *testing.T) {
	for _, u := range []*Table{nil, {}} {
		for _, s := range []Stance{{}, pro(1, 1), pro(0)} {
			noPropose(t, "of nil", u, s, api.ErrNil)
			for _, round := range []int{0, 1, 2, math.MaxInt, math.MinInt} {
				noHear(t, "of nil", u, round, s, api.ErrNil)
			}
		}
		has(t, u, nil)
		if u.Home() != 0 || u.Other() != 0 || len(u.Save()) != 0 {
			t.Errorf("of nil: something")
		}
	}
}

// TestAlone: P11.2, one home alone: what it proposes is decided at once.
func TestAlone(t *testing.T) {
	u := of(t, 7, 0)
	proposes(t, u, pro(5, 1))
	has(t, u, nil, cut(7, 5, 1))
	proposes(t, u, pro(api.MaxTime, 1, 0, api.MaxCount))
	proposes(t, u, pro(1, 2, 0, api.MaxCount)) // its Time may be less than the last one's
	has(t, u, nil, cut(7, 5, 1), cut(7, api.MaxTime, 1, 0, api.MaxCount), cut(7, 1, 2, 0, api.MaxCount))
	for _, round := range []int{math.MinInt, 0, 1, 3, 4, 5, math.MaxInt} {
		for _, s := range []Stance{{}, pro(1, 9), pro(0, 1)} {
			noHear(t, "no other home", u, round, s, api.ErrState)
		}
	}
}

// TestDecided: P11.2 and P11.3, who wins a round of two homes, whichever stance is there first.
func TestDecided(t *testing.T) {
	for _, c := range []struct {
		own, other int
		mine, his  Stance
		won        Cut
	}{
		{1, 2, pro(5, 1), pro(4, 0, 1), cut(2, 4, 0, 1)},
		{1, 2, pro(4, 1), pro(5, 0, 1), cut(1, 4, 1)},
		{2, 1, pro(5, 1), pro(4, 0, 1), cut(1, 4, 0, 1)},
		{2, 1, pro(4, 1), pro(5, 0, 1), cut(2, 4, 1)},
		{1, 2, pro(5, 1), pro(5, 0, 1), cut(1, 5, 1)},
		{2, 1, pro(5, 1), pro(5, 0, 1), cut(1, 5, 0, 1)},
		{11, 12, pro(api.MaxTime, 1), pro(api.MaxTime, 0, 1), cut(11, api.MaxTime, 1)},
		{12, 3, pro(1, 1), pro(1, 1), cut(3, 1, 1)},
		{1, 2, pro(5, 1), Stance{}, cut(1, 5, 1)}, // a promise has the least Time, but does not propose
		{2, 1, pro(5, 1), Stance{}, cut(2, 5, 1)},
	} {
		u := of(t, c.own, c.other)
		proposes(t, u, c.mine)
		has(t, u, &c.mine)
		hears(t, u, 1, c.his, false)
		has(t, u, nil, c.won)
		if c.his.Has {
			continue
		}
		u = of(t, c.own, c.other)
		hears(t, u, 1, c.his, false) // a promise alone decides nothing
		has(t, u, nil)
		proposes(t, u, c.mine)
		has(t, u, nil, c.won)
	}
}

// TestPromises: P11.3, a home without a stance promises, when the other one proposes: whatever it proposes.
func TestPromises(t *testing.T) {
	for _, homes := range [][2]int{{1, 2}, {2, 1}, {12, 4}} {
		u := of(t, homes[0], homes[1])
		hears(t, u, 1, pro(api.MaxTime, 3, 1), true)
		has(t, u, nil, cut(homes[1], api.MaxTime, 3, 1))
		proposes(t, u, pro(1, 3, 2)) // a new round, without stances
		hears(t, u, 2, pro(2, 4, 1), false)
		hears(t, u, 3, pro(1, 4), true) // it need not cover the last one
		hears(t, u, 4, pro(1), true)
		has(t, u, nil, cut(homes[1], api.MaxTime, 3, 1), cut(homes[0], 1, 3, 2), cut(homes[1], 1, 4), cut(homes[1], 1))
	}
}

// TestProposeErrors: P11.2, the errors, in their order; with one nothing has changed.
func TestProposeErrors(t *testing.T) {
	u := of(t, 1, 2)
	bad, n := wrong()
	ask := func(what string) {
		t.Helper()
		for _, s := range bad[:n] {
			noPropose(t, what+", no stance", u, s, api.ErrArg)
		}
	}
	ask("at first")
	noPropose(t, "noughts at first", u, pro(1), api.ErrNone)
	proposes(t, u, pro(3, 2, 1))
	ask("with a stance")
	for _, s := range []Stance{pro(3, 2, 1), pro(1, 3, 3), pro(1)} {
		noPropose(t, "with a stance", u, s, api.ErrBusy)
	}
	hears(t, u, 1, Stance{}, false)
	ask("behind a round")
	for _, s := range []Stance{pro(9), pro(9, 2), pro(9, 1, 1), pro(9, 0, 1), pro(9, 1, 9), pro(9, 9, 0, 9)} {
		noPropose(t, "what does not cover the last one", u, s, api.ErrAway)
	}
	noPropose(t, "the last one", u, pro(9, 2, 1), api.ErrNone)
	last := pro(1, api.MaxCount, 1)
	last.Cut[api.MaxNodes-1] = 1
	proposes(t, u, last)
	has(t, u, &last, cut(1, 3, 2, 1))
}

// TestHearErrors: P11.3, the errors, in their order; with one nothing has changed.
func TestHearErrors(t *testing.T) {
	u := of(t, 3, 1)
	bad, _ := wrong()
	ask := func(what string) {
		t.Helper()
		for _, s := range bad {
			for _, round := range []int{math.MinInt, 0, 1, 2, 3, 4, math.MaxInt} {
				noHear(t, what+", no stance", u, round, s, api.ErrForm)
			}
		}
	}
	rounds := func(what string, want api.Errno, l ...int) {
		t.Helper()
		for _, round := range l {
			noHear(t, what, u, round, Stance{}, want)
			noHear(t, what, u, round, pro(1, 9), want)
		}
	}
	ask("at first")
	rounds("no round", api.ErrTwice, 0, -1, math.MinInt)
	rounds("not the next round", api.ErrState, 2, 3, 1<<32+1, math.MaxInt)
	hears(t, u, 1, Stance{}, false)
	ask("with a stance of the other")
	rounds("again", api.ErrTwice, 1, 0)
	rounds("not the next round", api.ErrState, 2, 3)
	proposes(t, u, pro(7, 5))
	has(t, u, nil, cut(3, 7, 5))
	ask("behind a round")
	rounds("a round that is decided", api.ErrTwice, 1, 0, -1)
	rounds("not the next round", api.ErrState, 3, 4, math.MaxInt)
	mine := pro(8, 6)
	proposes(t, u, mine)
	ask("with a stance of its own")
	rounds("a round that is decided", api.ErrTwice, 1, 0)
	rounds("not the next round", api.ErrState, 3, 4)
	has(t, u, &mine, cut(3, 7, 5))
}

// TestFull: P11.2 and P11.3, at MaxCuts cuts nothing more.
func TestFull(t *testing.T) {
	for _, other := range []int{0, 6} {
		u := of(t, 5, other)
		var all []Cut
		for n := uint32(1); n <= api.MaxCuts; n++ {
			switch {
			case other == 0 || n%3 == 0:
				proposes(t, u, pro(2, n))
				all = append(all, cut(5, 2, n))
				if other != 0 {
					hears(t, u, int(n), pro(3, n, 1), false)
				}
			default:
				hears(t, u, int(n), pro(3, n), true)
				all = append(all, cut(6, 3, n))
			}
		}
		has(t, u, nil, all...)
		noPropose(t, "one more", u, pro(1, 99), api.ErrFull)
		noPropose(t, "one more, that does not cover", u, pro(1, 1), api.ErrFull)
		noPropose(t, "one more, the last one again", u, pro(1, api.MaxCuts), api.ErrFull)
		noPropose(t, "one more, that may not be", u, pro(0, 99), api.ErrArg)
		if other != 0 {
			noHear(t, "one more", u, api.MaxCuts+1, pro(1, 99), api.ErrFull)
			noHear(t, "one more, a promise", u, api.MaxCuts+1, Stance{}, api.ErrFull)
			noHear(t, "one more, that may not be", u, api.MaxCuts+1, pro(0, 99), api.ErrForm)
			noHear(t, "a round that is decided", u, api.MaxCuts, pro(1, 99), api.ErrTwice)
			noHear(t, "a round behind the next one", u, api.MaxCuts+2, pro(1, 99), api.ErrState)
		}
		goesThere(t, u)
	}
}

// model is a table, by the words of the document.
type model struct {
	own, other int
	cuts       []Cut
	there      map[int]Stance // by homes
}

func (m *model) last() (v api.Vector) {
	for _, c := range m.cuts {
		v = c.Vector
	}
	return v
}

// mayBe tells whether a stance may be.
func (m *model) mayBe(s Stance) bool {
	for _, n := range s.Cut {
		if n > 1<<20 || n > 0 && !s.Has {
			return false
		}
	}
	return s.Has && s.Time > 0 && s.Time <= 1<<40 || !s.Has && s.Time == 0
}

// decide ends a round, asking homes by their numbers: so the lesser one wins of two that are equal.
func (m *model) decide() {
	if _, is := m.there[m.own]; !is {
		return
	}
	if _, is := m.there[m.other]; !is && m.other != 0 {
		return
	}
	won := 0
	for home := 1; home <= 12; home++ {
		if s := m.there[home]; s.Has && (won == 0 || s.Time < m.there[won].Time) {
			won = home
		}
	}
	if won != 0 {
		m.cuts = append(m.cuts, Cut{won, m.there[won].Time, m.there[won].Cut})
		clear(m.there)
	}
}

func (m *model) propose(s Stance) (Stance, api.Errno) {
	if !m.mayBe(s) {
		return Stance{}, api.ErrArg
	}
	if _, is := m.there[m.own]; is {
		return Stance{}, api.ErrBusy
	}
	if len(m.cuts) == 20 {
		return Stance{}, api.ErrFull
	}
	if !clock.Covers(s.Cut, m.last()) {
		return Stance{}, api.ErrAway
	}
	if s.Cut == m.last() {
		return Stance{}, api.ErrNone
	}
	m.there[m.own] = s
	m.decide()
	return s, api.OK
}

func (m *model) hear(round int, s Stance) (bool, api.Errno) {
	if m.other == 0 {
		return false, api.ErrState
	}
	if !m.mayBe(s) {
		return false, api.ErrForm
	}
	if round <= len(m.cuts) {
		return false, api.ErrTwice
	}
	if round != len(m.cuts)+1 {
		return false, api.ErrState
	}
	if _, is := m.there[m.other]; is {
		return false, api.ErrTwice
	}
	if len(m.cuts) == 20 {
		return false, api.ErrFull
	}
	m.there[m.other] = s
	_, is := m.there[m.own]
	promises := !is && s.Has
	if promises {
		m.there[m.own] = Stance{}
	}
	m.decide()
	return promises, api.OK
}

// agrees asks whether a table has what a model has.
func (m *model) agrees(t *testing.T, u *Table) {
	t.Helper()
	if s, is := m.there[m.own]; is {
		has(t, u, &s, m.cuts...)
	} else {
		has(t, u, nil, m.cuts...)
	}
}

// some is a stance, that may be or not.
func some(r *rand.Rand, over api.Vector) Stance {
	s := Stance{Has: r.Intn(4) > 0}
	if s.Has || r.Intn(20) == 0 {
		s.Time = uint64(r.Intn(30)) / 4
		s.Cut = over
		for i := range 3 {
			s.Cut[i] += uint32(r.Intn(3) * r.Intn(2))
		}
	}
	if r.Intn(6) == 0 {
		s.Cut[r.Intn(3)] = uint32(r.Intn(3))
	}
	if r.Intn(40) == 0 {
		s.Cut[r.Intn(12)] = api.MaxCount + uint32(r.Intn(2))
	}
	return s
}

// randomly does something to a table and a model, and asks whether they tell the same.
func randomly(t *testing.T, r *rand.Rand, u *Table, m *model) {
	t.Helper()
	s := some(r, m.last())
	if r.Intn(2) == 0 {
		s.Has = true
		want, e := m.propose(s)
		if got, f := u.Propose(s.Time, s.Cut); got != want || f != e {
			t.Fatalf("Propose(%v): %v %v, want %v %v", s, got, f, want, e)
		}
		return
	}
	round := len(m.cuts) + 1
	if r.Intn(5) == 0 {
		round += r.Intn(4) - 2
	}
	want, e := m.hear(round, s)
	if got, f := u.Hear(round, s); got != want || f != e {
		t.Fatalf("Hear(%d, %v): %v %v, want %v %v", round, s, got, f, want, e)
	}
}

// anyHomes is a table of some homes, and its model.
func anyHomes(t *testing.T, r *rand.Rand) (*Table, *model) {
	t.Helper()
	own, other := 1+r.Intn(12), r.Intn(13)
	if own == other {
		other = 0
	}
	return of(t, own, other), &model{own: own, other: other, there: map[int]Stance{}}
}

// TestAny: P11.1 to P11.4, whatever happens, against the words of the document.
func TestAny(t *testing.T) {
	r := rand.New(rand.NewSource(11))
	cuts, full := 0, 0
	for range 1500 {
		u, m := anyHomes(t, r)
		for range r.Intn(90) {
			was := m.cuts
			randomly(t, r, u, m)
			m.agrees(t, u)
			if got := u.Cuts(); len(got) < len(was) || !slices.Equal(got[:len(was)], was) {
				t.Fatalf("what was cut does not stay: %v, then %v", was, got)
			}
		}
		goesThere(t, u)
		cuts += len(m.cuts)
		if len(m.cuts) == api.MaxCuts {
			full++
		}
	}
	if cuts < 5000 || full < 50 {
		t.Errorf("just %d cuts, and %d tables full: of little worth", cuts, full)
	}
}

// told is what a home tells the other one.
type told struct {
	round int
	s     Stance
}

// pair is two homes that tell each other their stances, in order.
type pair struct {
	homes [2]*Table
	way   [2][]told // what is on its way to each of them
}

// proposeAt lets a home propose more than its last cut, if it may.
func (p *pair) proposeAt(t *testing.T, r *rand.Rand, i int) {
	t.Helper()
	v := p.homes[i].Last()
	v[r.Intn(12)] += 1 + uint32(r.Intn(2))
	round := len(p.homes[i].Cuts()) + 1
	s, e := p.homes[i].Propose(uint64(1+r.Intn(4)), v)
	if e == api.OK {
		p.way[1-i] = append(p.way[1-i], told{round, s})
	} else if e != api.ErrBusy && e != api.ErrFull {
		t.Fatalf("Propose: %v", e)
	}
}

// hearAt lets a home hear the first that is on its way to it.
func (p *pair) hearAt(t *testing.T, i int) {
	t.Helper()
	if len(p.way[i]) == 0 {
		return
	}
	x := p.way[i][0]
	p.way[i] = p.way[i][1:]
	promises, e := p.homes[i].Hear(x.round, x.s)
	if e != api.OK {
		t.Fatalf("Hear(%v): %v", x, e)
	}
	if promises {
		p.way[1-i] = append(p.way[1-i], told{x.round, Stance{}})
	}
}

// same asks for the same cuts, as far as both homes have them, which cover each other in order.
func (p *pair) same(t *testing.T) (both int) {
	t.Helper()
	a, b := p.homes[0].Cuts(), p.homes[1].Cuts()
	both = min(len(a), len(b))
	if !slices.Equal(a[:both], b[:both]) {
		t.Fatalf("cuts that are unlike: %v and %v", a, b)
	}
	for _, l := range [][]Cut{a, b} {
		for i := range l {
			if i > 0 && clock.Order(l[i].Vector, l[i-1].Vector) != 1 {
				t.Fatalf("cuts that do not cover each other: %v", l)
			}
		}
	}
	return both
}

// TestTwo: P11.5, P11.6 and P5, two homes that tell each other their stances, in order, have the same cuts.
func TestTwo(t *testing.T) {
	r := rand.New(rand.NewSource(12))
	won := [2]int{}
	for range 1000 {
		own, other := 1+r.Intn(12), 1+r.Intn(12)
		if own == other {
			continue
		}
		p := &pair{homes: [2]*Table{of(t, own, other), of(t, other, own)}}
		for range r.Intn(120) {
			if r.Intn(3) == 0 {
				p.proposeAt(t, r, r.Intn(2))
			} else {
				p.hearAt(t, r.Intn(2))
			}
			p.same(t)
		}
		for len(p.way[0])+len(p.way[1]) > 0 {
			p.hearAt(t, 0)
			p.hearAt(t, 1)
		}
		if both := p.same(t); both != len(p.homes[0].Cuts()) || both != len(p.homes[1].Cuts()) {
			t.Fatalf("all is heard, and not all is decided at both: %v and %v", p.homes[0].Cuts(), p.homes[1].Cuts())
		}
		for _, c := range p.homes[0].Cuts() {
			if c.Home == own {
				won[0]++
			} else {
				won[1]++
			}
		}
	}
	if min(won[0], won[1]) < 2000 {
		t.Errorf("just %v cuts: of little worth", won)
	}
}

// TestOwnMemory: what is handed out is new memory: changing it changes nothing.
func TestOwnMemory(t *testing.T) {
	u := of(t, 1, 2)
	hears(t, u, 1, pro(3, 1), true)
	hears(t, u, 2, pro(4, 2), true)
	was := u.Save()
	spoil := func() {
		l := u.Cuts()
		l[0], l[1] = l[1], Cut{}
		_ = append(l[:1], Cut{})
		b := u.Save()
		b[0], b[3] = 9, 9
	}
	spoil()
	if b := u.Save(); !slices.Equal(b, was) {
		t.Errorf("changed from outside: %x, not %x", b, was)
	}
	u, _ = Load(was)
	spoil()
	was[0], was[5] = 9, 9
	has(t, u, nil, cut(2, 3, 1), cut(2, 4, 2))
}

package msg

import (
	"math"
	"strings"
	"testing"

	"trug/api"
	"trug/cuts"
	"trug/label"
	"trug/op"
)

// nought is -0.
var nought = math.Copysign(0, -1)

// most is the greatest vector that may be.
var most = filled(api.MaxCount)

// filled is a vector of one number.
func filled(n uint32) (v api.Vector) {
	for i := range v {
		v[i] = n
	}
	return v
}

// ofLabel is a label that may be.
func ofLabel() label.Label {
	return label.Label{Time: 300, Node: 2, N: 3, Cart: 4, Seller: 5, Deps: api.Vector{7, 2}}
}

// event is an event that may be.
func event(o op.Op) op.Event { return op.Event{Label: ofLabel(), Op: o} }

// add is an op that may be.
var add = op.Op{Kind: 1, Sku: 5, Qty: 2}

// greatest is the label with the most bytes.
func greatest() label.Label {
	l := label.Label{Time: api.MaxTime, Node: 12, N: api.MaxCount, Cart: 12, Seller: 12, Deps: most}
	l.Deps[11]--
	return l
}

// some is messages that may be, at the edges of each kind.
func some() []Msg {
	checkout := ofLabel()
	checkout.Seller = 0
	list := []Msg{
		Of(ofLabel()), Of(greatest()), Of(checkout), Of(label.Label{Time: 1, Node: 1, N: 1, Cart: 1}),
		Say(1, 1, cuts.Stance{}), Say(12, 21, cuts.Stance{}), Say(7, 20, cuts.Stance{Has: true, Time: 1}),
		Say(12, 21, cuts.Stance{Has: true, Time: api.MaxTime, Cut: most}), Say(1, 1, cuts.Stance{Has: true, Time: 300, Cut: api.Vector{11: 1}}),
		End(1, 0), End(12, 200), End(3, 199), End(5, 1),
	}
	for _, o := range []op.Op{
		add, {Kind: 1, Sku: 40, Qty: 1000}, {Kind: 2, Sku: 1, Qty: -1000}, {Kind: 3, Sku: 7}, {Kind: 4}, {Kind: 5, Sku: 9, Qty: 3},
		{Kind: 6, Sku: 2}, {Kind: 6, Sku: 2, Price: nought}, {Kind: 6, Sku: 2, Price: 1.5}, {Kind: 6, Sku: 2, Price: math.Inf(-1)},
		{Kind: 6, Sku: 2, Price: math.NaN()}, {Kind: 6, Sku: 2, Price: math.Float64frombits(0xFFF0000000000001)},
	} {
		list = append(list, Hand(event(o)), Part(event(o)), Hand(op.Event{Label: greatest(), Op: o}))
	}
	for _, kind := range []int{4, 6, 7, 8, 9} {
		list = append(list, Ask(kind, 1), Ask(kind, 3), Ask(kind, 12))
	}
	return list
}

// wrong is messages that may not be, by what is wrong with them.
func wrong() map[string]Msg {
	s := cuts.Stance{Has: true, Time: 5, Cut: api.Vector{1}}
	list := map[string]Msg{
		"nothing": {}, "the kind -1": {Kind: -1}, "the kind 11": {Kind: 11}, "the kind 11 of a seller": Ask(11, 3), "the kind 0 of a seller": Ask(0, 3),
		"the least kind": {Kind: math.MinInt}, "the greatest kind": {Kind: math.MaxInt}, "the kind 2^32 + 4": Ask(1<<32+4, 3),
		"a kind alone 1": {Kind: 1}, "a kind alone 2": {Kind: 2}, "a kind alone 3": {Kind: 3}, "a kind alone 10": {Kind: 10},
		"asked for a label": Ask(1, 3), "asked for an event": Ask(2, 3), "asked for a part": Ask(3, 3), "asked for a stance": Ask(10, 3),
		"no label": Of(label.Label{}), "no event": Hand(op.Event{}), "no part": Part(op.Event{}),
		"an end, count -1": End(3, -1), "an end, count 201": End(3, 201), "an end, count 2^32": End(3, 1<<32), "an end, the least count": End(3, math.MinInt),
		"the cart 0": Say(0, 1, s), "the cart 13": Say(13, 1, s), "the cart -1": Say(-1, 1, s), "the cart 2^32 + 1": Say(1<<32+1, 1, s),
		"the round 0": Say(1, 0, s), "the round 22": Say(1, 22, s), "the round -1": Say(1, -1, s), "the round 2^32 + 1": Say(1, 1<<32+1, s),
		"a promise of the cart 0": Say(0, 1, cuts.Stance{}), "a promise of the round 22": Say(1, 22, cuts.Stance{}),
		"a promise with a Time": Say(1, 1, cuts.Stance{Time: 5}), "a promise with a cut": Say(1, 1, cuts.Stance{Cut: s.Cut}),
		"a proposal without a Time": Say(1, 1, cuts.Stance{Has: true, Cut: s.Cut}), "a proposal, late": Say(1, 1, cuts.Stance{Has: true, Time: api.MaxTime + 1}),
		"a proposal, the last Time": Say(1, 1, cuts.Stance{Has: true, Time: math.MaxUint64}),
	}
	for i, n := range []uint32{api.MaxCount + 1, 1 << 31, math.MaxUint32} {
		c := s
		c.Cut[4*i+3] = n
		list["a great number of a cut "+string(rune('a'+i))] = Say(1, 1, c)
	}
	for kind := 4; kind <= 9; kind++ {
		for i, seller := range []int{0, -1, 13, 1<<32 + 1, math.MinInt, math.MaxInt} {
			list["no seller "+string(rune('a'+kind))+string(rune('a'+i))] = Ask(kind, seller)
		}
	}
	l := ofLabel()
	l.N = 2
	list["a label whose dot is another one"] = Of(l)
	list["an event of no seller"] = Hand(op.Event{Label: label.Label{Time: 1, Node: 1, N: 1, Cart: 1}, Op: add})
	list["a part of no seller"] = Part(op.Event{Label: label.Label{Time: 1, Node: 1, N: 1, Cart: 1}, Op: add})
	list["an event whose op may not be"] = Hand(event(op.Op{Kind: 1, Sku: 5}))
	list["a part whose op may not be"] = Part(event(op.Op{Kind: 4, Price: nought}))
	return list
}

// more is ways in which a message gets a part more, by names.
func more() map[string]func(m *Msg) {
	return map[string]func(m *Msg){
		"Seller": func(m *Msg) { m.Seller = 3 },
		"Count":  func(m *Msg) { m.Count = 1 },
		"Cart":   func(m *Msg) { m.Cart = 1 },
		"Round":  func(m *Msg) { m.Round = 1 },
		"Label":  func(m *Msg) { m.Label = ofLabel() },
		"Event":  func(m *Msg) { m.Event = event(add) },
		"Stance": func(m *Msg) { m.Stance = cuts.Stance{Has: true, Time: 5} },
		"-0":     func(m *Msg) { m.Event.Op.Price = nought },
		"Deps":   func(m *Msg) { m.Label.Deps[11] = 1 },
		"Cut":    func(m *Msg) { m.Stance.Cut[11] = 1 },
	}
}

// has tells which parts each kind has.
var has = [11]string{1: "Label Deps", 2: "Event -0", 3: "Event -0", 4: "Seller", 5: "Seller Count", 6: "Seller", 7: "Seller", 8: "Seller", 9: "Seller", 10: "Cart Round Stance Cut"}

// TestMakers: P23.1, such messages, of whatever is handed in.
func TestMakers(t *testing.T) {
	l, x, s := ofLabel(), event(op.Op{Kind: 6, Sku: 1, Price: math.NaN()}), cuts.Stance{Has: true, Time: 5, Cut: api.Vector{1}}
	for what, pair := range map[string][2]Msg{
		"Of":              {Of(l), {Kind: 1, Label: l}},
		"Hand":            {Hand(x), {Kind: 2, Event: x}},
		"Part":            {Part(x), {Kind: 3, Event: x}},
		"Ask":             {Ask(8, 3), {Kind: 8, Seller: 3}},
		"Ask for an end":  {Ask(5, 3), End(3, 0)},
		"Ask of no kind":  {Ask(-7, 99), {Kind: -7, Seller: 99}},
		"End":             {End(3, 7), {Kind: 5, Seller: 3, Count: 7}},
		"End of nobody":   {End(-1, -2), {Kind: 5, Seller: -1, Count: -2}},
		"Say":             {Say(4, 6, s), {Kind: 10, Cart: 4, Round: 6, Stance: s}},
		"Say, a promise":  {Say(4, 6, cuts.Stance{}), {Kind: 10, Cart: 4, Round: 6}},
		"Say of no cart":  {Say(-4, -6, cuts.Stance{Time: 5}), {Kind: 10, Cart: -4, Round: -6, Stance: cuts.Stance{Time: 5}}},
		"Of no label":     {Of(label.Label{N: 7}), {Kind: 1, Label: label.Label{N: 7}}},
		"Hand without op": {Hand(op.Event{Label: l}), {Kind: 2, Event: op.Event{Label: l}}},
	} {
		if !Same(pair[0], pair[1]) {
			t.Errorf("%s: %v, not %v", what, pair[0], pair[1])
		}
	}
}

// TestRight: P23.1, which messages may be.
func TestRight(t *testing.T) {
	for _, m := range some() {
		if !Right(m) {
			t.Errorf("%v may not be", m)
		}
	}
	for what, m := range wrong() {
		if Right(m) {
			t.Errorf("%s: %v may be", what, m)
		}
	}
}

// TestMore: P23.1, a message has just what its kind has: whatever else it has, it may not be.
func TestMore(t *testing.T) {
	for _, m := range some() {
		for what, add := range more() {
			if strings.Contains(" "+has[m.Kind]+" ", " "+what+" ") {
				continue
			}
			x := m
			add(&x)
			if Right(x) {
				t.Errorf("%v may be: %s", x, what)
			}
			if b, e := Write(x); len(b) != 0 || e != api.ErrForm {
				t.Errorf("Write, %s: %x %v", what, b, e)
			}
			if Same(x, m) || Same(m, x) {
				t.Errorf("Same, %s: %v", what, x)
			}
		}
	}
}

// TestSame: P23.1, equal in all, Prices by their bits.
func TestSame(t *testing.T) {
	list := some()
	for _, m := range wrong() {
		list = append(list, m)
	}
	for i, a := range list {
		if !Same(a, a) {
			t.Errorf("%v is unlike itself", a)
		}
		for j, b := range list {
			if i != j && bits(a) != bits(b) && Same(a, b) {
				t.Errorf("%v is the same as %v", a, b)
			}
			if bits(a) == bits(b) && !Same(a, b) {
				t.Errorf("%v is unlike %v", a, b)
			}
		}
	}
}

// bits is a message whose Price stands apart, by its bits.
func bits(m Msg) [2]any {
	price := math.Float64bits(m.Event.Op.Price)
	m.Event.Op.Price = 0
	return [2]any{m, price}
}

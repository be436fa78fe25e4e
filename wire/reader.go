package wire

import (
	"math"

	"trug/api"
	"trug/total"
)

// Reader reads numbers.
type Reader struct{ of *reading }

// reading is what one call of Read knows. It stands apart from the reader, so that a copy of that reads on in the same bytes, and ends with the call too.
type reading struct {
	rest []byte
	met  api.Errno // the first fault, kept: f may have recovered what it panicked by
	open bool
}

// fault is what a reading panics by.
type fault struct{ of *reading }

// Must is a fault, if something is not so.
func (r *Reader) Must(is bool) {
	if r.on() {
		r.of.must(is)
	}
}

// Num is the number that stands here.
func (r *Reader) Num() uint64 {
	if !r.on() {
		return 0
	}
	return r.of.num()
}

// Small is the number that stands here, at most another one.
func (r *Reader) Small(most int) int {
	if !r.on() {
		return 0
	}
	return r.of.small(most)
}

// Int is the whole number that stands here.
func (r *Reader) Int() int {
	if !r.on() {
		return 0
	}
	n := r.of.num()
	away := n/2 + n%2
	r.of.must(away <= mostInt)
	if n%2 == 1 {
		return -int(away)
	}
	return int(away)
}

// Text is the text that stands here, of at most so many bytes.
func (r *Reader) Text(most int) []byte {
	if !r.on() {
		return nil
	}
	return append([]byte(nil), r.of.take(r.of.small(most))...)
}

// Float is the float that stands here.
func (r *Reader) Float() float64 {
	if !r.on() {
		return 0
	}
	key := uint64(0)
	for _, c := range r.of.take(floatBytes) {
		key = key<<8 | uint64(c)
	}
	return total.Of(key)
}

// Vector is the vector that stands here.
func (r *Reader) Vector() (v api.Vector) {
	if !r.on() {
		return v
	}
	n := r.of.small(len(v))
	for i := range n {
		x := r.of.num()
		r.of.must(x <= math.MaxUint32)
		r.of.must(x > 0 || i < n-1)
		v[i] = uint32(x)
	}
	return v
}

// Read lets a function read bytes.
func Read(b []byte, f func(r *Reader)) (e api.Errno) {
	if f == nil {
		return api.ErrNil
	}
	s := &reading{rest: b, open: true}
	defer func() { e = s.end(recover()) }()
	f(&Reader{s})
	return e
}

// on tells whether a reader reads still; one that met a fault meets it again.
func (r *Reader) on() bool {
	if r == nil || r.of == nil || !r.of.open {
		return false
	}
	if r.of.met != api.OK {
		panic(fault{r.of})
	}
	return true
}

// end is what Read tells, where the function ended by a panic with x, or without one, if x is nil.
func (s *reading) end(x any) api.Errno {
	left := len(s.rest)
	s.rest, s.open = nil, false
	if other, ok := x.(fault); ok && other.of != s {
		panic(x) // of a reader of a call around this one, which tells it
	}
	switch {
	case s.met != api.OK:
		return s.met
	case x != nil:
		panic(x)
	case left > 0:
		return api.ErrLong
	}
	return api.OK
}

// fail meets a fault.
func (s *reading) fail(e api.Errno) {
	s.met = e
	panic(fault{s})
}

// must is a fault, if something is not so.
func (s *reading) must(is bool) {
	if !is {
		s.fail(api.ErrForm)
	}
}

// take is the next n bytes, as they stand.
func (s *reading) take(n int) []byte {
	if n > len(s.rest) {
		s.fail(api.ErrShort)
	}
	b := s.rest[:n]
	s.rest = s.rest[n:]
	return b
}

// num is the number that stands here.
func (s *reading) num() uint64 {
	n := uint64(0)
	for first := true; ; first = false {
		c := s.take(1)[0]
		s.must(!first || c != follows)
		s.must(n <= math.MaxUint64/base)
		n = n*base + uint64(c%base)
		if c < follows {
			return n
		}
	}
}

// small is the number that stands here, at most another one.
func (s *reading) small(most int) int {
	n := s.num()
	s.must(most >= 0 && n <= uint64(most))
	return int(n)
}

package wire

import (
	"slices"

	"trug/api"
	"trug/total"
)

// mostDigits is how many digits to the base 128 a number below 2^64 has at most.
const mostDigits = 10

// Writer writes numbers as bytes.
type Writer struct{ all []byte }

// New is a writer without bytes.
func New() *Writer { return &Writer{} }

// Num writes a number.
func (w *Writer) Num(n uint64) *Writer {
	var digits [mostDigits]byte
	at := len(digits) - 1
	digits[at] = byte(n % base)
	for n /= base; n > 0; n /= base {
		at--
		digits[at] = byte(n%base) | follows
	}
	return w.put(digits[at:])
}

// Int writes a whole number.
func (w *Writer) Int(n int) *Writer {
	if n < 0 {
		return w.Num(2*uint64(-(n+1)) + 1) // one nearer to nought first, so that the least number has a counterpart
	}
	return w.Num(2 * uint64(n))
}

// Text writes a text.
func (w *Writer) Text(b []byte) *Writer { return w.Num(uint64(len(b))).put(b) }

// Float writes a float.
func (w *Writer) Float(f float64) *Writer {
	key := total.Key(f)
	var b [floatBytes]byte
	for i := range b {
		b[len(b)-1-i] = byte(key >> (8 * i))
	}
	return w.put(b[:])
}

// Vector writes a vector.
func (w *Writer) Vector(v api.Vector) *Writer {
	n := len(v)
	for n > 0 && v[n-1] == 0 {
		n--
	}
	w.Num(uint64(n))
	for _, x := range v[:n] {
		w.Num(uint64(x))
	}
	return w
}

// Bytes is all bytes.
func (w *Writer) Bytes() []byte {
	if w == nil {
		return nil
	}
	return slices.Clone(w.all)
}

// put writes bytes as they are.
func (w *Writer) put(b []byte) *Writer {
	if w == nil {
		return nil
	}
	w.all = append(w.all, b...)
	return w
}

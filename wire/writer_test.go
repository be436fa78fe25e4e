package wire

import (
	"bytes"
	"math"
	"math/big"
	"math/rand"
	"testing"

	"trug/api"
	"trug/total"
)

// digits is a number's bytes, by the words of the document, of numbers of any size.
func digits(n *big.Int) []byte {
	q, m := new(big.Int).QuoRem(n, big.NewInt(128), new(big.Int))
	last := byte(m.Int64())
	if q.Sign() == 0 {
		return []byte{last}
	}
	b := digits(q)
	b[len(b)-1] += 128
	return append(b, last)
}

func numBytes(n uint64) []byte { return digits(new(big.Int).SetUint64(n)) }

// intBytes is a whole number's bytes, by the words of the document.
func intBytes(n int) []byte {
	twice := big.NewInt(int64(n))
	twice.Mul(twice, big.NewInt(2))
	if n < 0 {
		twice.Neg(twice).Sub(twice, big.NewInt(1))
	}
	return digits(twice)
}

// someNums is numbers at the edges of their bytes, and others.
func someNums(r *rand.Rand, n int) []uint64 {
	l := []uint64{0, 1, 127, 128, 129, 300, math.MaxUint32, math.MaxUint32 + 1, math.MaxInt64, math.MaxUint64}
	for i := range 64 {
		l = append(l, 1<<i, 1<<i-1, 1<<i+1)
	}
	for range n {
		l = append(l, r.Uint64()>>r.Intn(64))
	}
	return l
}

// someInts is whole numbers, with those at the edges of what may be read.
func someInts(r *rand.Rand, n int) []int {
	l := []int{0, 1, -1, 63, 64, -64, -65, 1 << 62, 1<<62 + 1, -1 << 62, -1<<62 - 1, math.MaxInt, math.MinInt, math.MinInt + 1}
	for range n {
		l = append(l, int(r.Uint64())>>r.Intn(64))
	}
	return l
}

func wantBytes(t *testing.T, what string, w *Writer, want []byte) {
	t.Helper()
	if got := w.Bytes(); !bytes.Equal(got, want) {
		t.Errorf("%s: %x, not %x", what, got, want)
	}
}

// TestWriteKnown: P3.1, bytes that are known.
func TestWriteKnown(t *testing.T) {
	wantBytes(t, "New", New(), nil)
	wantBytes(t, "Num(0)", New().Num(0), []byte{0})
	wantBytes(t, "Num(127)", New().Num(127), []byte{127})
	wantBytes(t, "Num(128)", New().Num(128), []byte{0x81, 0})
	wantBytes(t, "Num(300)", New().Num(300), []byte{0x82, 0x2C})
	wantBytes(t, "Num(2^64-1)", New().Num(math.MaxUint64), []byte("\x81\xFF\xFF\xFF\xFF\xFF\xFF\xFF\xFF\x7F"))
	wantBytes(t, "Int(0)", New().Int(0), []byte{0})
	wantBytes(t, "Int(-1)", New().Int(-1), []byte{1})
	wantBytes(t, "Int(1)", New().Int(1), []byte{2})
	wantBytes(t, "Int(-64)", New().Int(-64), []byte{127})
	wantBytes(t, "Int(64)", New().Int(64), []byte{0x81, 0})
	wantBytes(t, "Int(-2^63)", New().Int(math.MinInt), []byte("\x81\xFF\xFF\xFF\xFF\xFF\xFF\xFF\xFF\x7F"))
	wantBytes(t, "Int(2^63-1)", New().Int(math.MaxInt), []byte("\x81\xFF\xFF\xFF\xFF\xFF\xFF\xFF\xFF\x7E"))
	wantBytes(t, "Text(nil)", New().Text(nil), []byte{0})
	wantBytes(t, "Text of none", New().Text([]byte{}), []byte{0})
	wantBytes(t, "Text", New().Text([]byte("a\x00b")), []byte("\x03a\x00b"))
	wantBytes(t, "Float(+0)", New().Float(0), []byte{0x80, 0, 0, 0, 0, 0, 0, 0})
	wantBytes(t, "Float(-0)", New().Float(math.Copysign(0, -1)), []byte{0x7F, 255, 255, 255, 255, 255, 255, 255})
	wantBytes(t, "Float(1)", New().Float(1), []byte{0xBF, 0xF0, 0, 0, 0, 0, 0, 0})
	wantBytes(t, "Float of a key", New().Float(total.Of(0x0102030405060708)), []byte{1, 2, 3, 4, 5, 6, 7, 8})
	wantBytes(t, "Vector of noughts", New().Vector(api.Vector{}), []byte{0})
	wantBytes(t, "Vector", New().Vector(api.Vector{0, 5}), []byte{2, 0, 5})
	wantBytes(t, "Vector, a nought within", New().Vector(api.Vector{300, 0, 1}), []byte{3, 0x82, 0x2C, 0, 1})
	wantBytes(t, "Vector, the last alone", New().Vector(api.Vector{11: math.MaxUint32}), []byte("\x0C\x00\x00\x00\x00\x00\x00\x00\x00\x00\x00\x00\x8F\xFF\xFF\xFF\x7F"))
}

// TestWriteNumbers: P3.1, the bytes of many numbers.
func TestWriteNumbers(t *testing.T) {
	r := rand.New(rand.NewSource(1))
	for _, n := range someNums(r, 500) {
		wantBytes(t, "Num", New().Num(n), numBytes(n))
	}
	for _, n := range someInts(r, 500) {
		wantBytes(t, "Int", New().Int(n), intBytes(n))
	}
	for _, n := range []int{1, 127, 128, 70000} {
		b := make([]byte, n)
		r.Read(b)
		wantBytes(t, "Text", New().Text(b), append(numBytes(uint64(n)), b...))
	}
}

// TestWriteBehind: P3.1, what is written stands behind the others, and each call tells the writer.
func TestWriteBehind(t *testing.T) {
	w := New()
	if w.Num(1) != w || w.Int(-2) != w || w.Text([]byte("xy")) != w || w.Float(1) != w || w.Vector(api.Vector{3}) != w {
		t.Errorf("a call does not tell the writer")
	}
	wantBytes(t, "all", w, []byte("\x01\x03\x02xy\xBF\xF0\x00\x00\x00\x00\x00\x00\x01\x03"))
	wantBytes(t, "all, again", w, []byte("\x01\x03\x02xy\xBF\xF0\x00\x00\x00\x00\x00\x00\x01\x03"))
	wantBytes(t, "another one", New().Num(7), []byte{7})
}

// TestWriteNil: P3.1, of nil nothing; P1, a writer that New did not make is one without bytes.
func TestWriteNil(t *testing.T) {
	var w *Writer
	if w.Num(1) != nil || w.Int(1) != nil || w.Text([]byte("a")) != nil || w.Float(1) != nil || w.Vector(api.Vector{1}) != nil {
		t.Errorf("a call of nil tells a writer")
	}
	if len(w.Bytes()) != 0 || len(w.Num(1).Int(2).Bytes()) != 0 {
		t.Errorf("nil has bytes")
	}
	wantBytes(t, "no call made it", new(Writer), nil)
	wantBytes(t, "no call made it", new(Writer).Num(300), []byte{0x82, 0x2C})
}

// TestWriteKeep: a writer keeps no text, and what Bytes hands out is new.
func TestWriteKeep(t *testing.T) {
	all := []byte("text behind")
	w := New().Text(all[:4])
	if string(all) != "text behind" {
		t.Errorf("the text is changed: %q", all)
	}
	copy(all, "TEXT")
	wantBytes(t, "kept", w, []byte("\x04text"))
	b := w.Bytes()
	b[0] = 9
	b = append(b, 1, 2, 3)
	w.Num(5)
	wantBytes(t, "changed from without", w, []byte("\x04text\x05"))
	if !bytes.Equal(b, []byte("\x09text\x01\x02\x03")) {
		t.Errorf("what was handed out is changed: %x", b)
	}
	wantBytes(t, "its own bytes", w.Text(w.Bytes()), []byte("\x04text\x05\x06\x04text\x05"))
}

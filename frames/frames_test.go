package frames

import (
	"bytes"
	"encoding/binary"
	"math"
	"math/rand"
	"slices"
	"testing"

	"trug/api"
	"trug/crc"
)

// byHand is a frame by the words of the document, whether it may be or not.
func byHand(kind byte, data []byte) []byte {
	out := binary.BigEndian.AppendUint16([]byte{0x5A, kind}, uint16(len(data)))
	out = append(out, data...)
	out = binary.BigEndian.AppendUint32(out, crc.Of(append([]byte{kind}, data...)))
	return append(out, 0xA5)
}

// frame asks for a frame that may be.
func frame(t *testing.T, kind int, data string) []byte {
	t.Helper()
	b, e := Write(Record{kind, []byte(data)})
	if e != api.OK || len(b) != len(data)+9 {
		t.Fatalf("Write: %d bytes, %v", len(b), e)
	}
	return b
}

// bad is a frame with a wrong sum.
func bad(kind byte, data string) []byte {
	b := byHand(kind, []byte(data))
	b[len(b)-2] ^= 1
	return b
}

// reads asks for what is read.
func reads(t *testing.T, b []byte, want []Record, n int, e api.Errno) {
	t.Helper()
	l, m, f := Read(b)
	if m != n || f != e || !slices.EqualFunc(l, want, same) {
		t.Errorf("Read(%.60x): %.60v, %d, %v; want %.60v, %d, %v", b, l, m, f, want, n, e)
	}
}

// same tells whether two records are equal.
func same(a, b Record) bool { return a.Kind == b.Kind && bytes.Equal(a.Data, b.Data) }

// TestRight: P13.1, which records may be, and how many bytes their frames have.
func TestRight(t *testing.T) {
	for _, kind := range []int{1, 2, 90, 165, 254, 255} {
		for _, n := range []int{0, 1, 2, 255, 256, 257, 59999, 60000} {
			r := Record{kind, bytes.Repeat([]byte{0x5A}, n)}
			if !Right(r) || Size(r) != n+9 {
				t.Errorf("%d, %d bytes: %t %d", kind, n, Right(r), Size(r))
			}
			if b, e := Write(r); e != api.OK || !bytes.Equal(b, byHand(byte(kind), r.Data)) {
				t.Errorf("Write of %d, %d bytes: %.40x %v", kind, n, b, e)
			}
		}
	}
	if r := (Record{Kind: 7}); !Right(r) || Size(r) != 9 {
		t.Errorf("no bytes at all: %t %d", Right(r), Size(r))
	}
}

// TestWrong: P13.1 and P1, which records may not be.
func TestWrong(t *testing.T) {
	for _, r := range []Record{
		{}, {0, []byte("a")}, {-1, nil}, {256, nil}, {257, []byte("a")}, {math.MinInt, nil}, {math.MaxInt, nil}, {1<<32 + 1, nil}, {-255, nil},
		{1, make([]byte, 60001)}, {255, make([]byte, 65535)}, {2, make([]byte, 65536)}, {2, make([]byte, 65537)}, {0, make([]byte, 60001)},
	} {
		b, e := Write(r)
		if Right(r) || Size(r) != 0 || len(b) != 0 || e != api.ErrForm {
			t.Errorf("%d, %d bytes: %t %d %d %v", r.Kind, len(r.Data), Right(r), Size(r), len(b), e)
		}
	}
}

// TestBytes: P13.1, a frame byte by byte.
func TestBytes(t *testing.T) {
	for _, c := range []struct {
		kind int
		data string
		want string
	}{
		{'1', "23456789", "\x5A1\x00\x0823456789\xFC\x89\x19\x18\xA5"}, // the document's example of a sum
		{3, "ab", "\x5A\x03\x00\x02ab\x5C\x29\x11\x39\xA5"},
		{255, "", "\x5A\xFF\x00\x00\x00\x00\x00\xFF\xA5"},
	} {
		got := frame(t, c.kind, c.data)
		if string(got) != c.want {
			t.Errorf("Write: %x, want %x", got, c.want)
		}
		reads(t, got, []Record{{c.kind, []byte(c.data)}}, len(got), api.OK)
	}
	b := frame(t, 9, string(make([]byte, 0x1234)))
	if b[2] != 0x12 || b[3] != 0x34 {
		t.Errorf("the length: %x", b[:4])
	}
}

// TestRead: P13.2, frames one behind the other, up to the tail.
func TestRead(t *testing.T) {
	a, b, c := frame(t, 1, "first"), frame(t, 255, ""), frame(t, 2, string(bytes.Repeat([]byte{0xA5}, 300)))
	want := []Record{{1, []byte("first")}, {255, nil}, {2, bytes.Repeat([]byte{0xA5}, 300)}}
	all := slices.Concat(a, b, c)
	other := byHand(3, []byte("xyz"))
	for _, tail := range [][]byte{
		nil, {0}, make([]byte, 9), make([]byte, 1000), {0x5A}, {0x5A, 1, 0}, {0xA5}, bytes.Repeat([]byte{0xA5}, 400), bytes.Repeat([]byte{0x5A}, 400),
		append([]byte{0}, other...), other[:len(other)-1], append(other[:len(other)-1:len(other)-1], 0), append(other[:len(other)-1:len(other)-1], 0x5A),
		append([]byte{0x5B}, other[1:]...), other[1:],
	} {
		reads(t, slices.Concat(all, tail), want, len(all), api.OK)
		reads(t, tail, nil, 0, api.OK)
	}
	reads(t, slices.Concat(all, make([]byte, 3), other), want, len(all), api.OK) // what stands behind the tail's begin is not looked at
	reads(t, slices.Concat(all, make([]byte, 3), bad(3, "a")), want, len(all), api.OK)
	reads(t, slices.Concat(c, c, c, a), []Record{want[2], want[2], want[2], want[0]}, 3*len(c)+len(a), api.OK)
}

// TestGreatest: P13.2, the greatest record, and those of a byte more.
func TestGreatest(t *testing.T) {
	data := bytes.Repeat([]byte("0123456789"), 6000)
	b := frame(t, 1, string(data))
	reads(t, b, []Record{{1, data}}, 60009, api.OK)
	for _, n := range []int{60001, 60002, 65534, 65535} {
		f := byHand(1, make([]byte, n))
		reads(t, f, nil, 0, api.ErrForm)
		reads(t, slices.Concat(b, f, b), []Record{{1, data}}, 60009, api.ErrForm)
		f[n+5] ^= 9
		reads(t, f, nil, 0, api.ErrForm) // ahead of the sum
		reads(t, f[:n+8], nil, 0, api.OK)
		f[n+8] = 0
		reads(t, f, nil, 0, api.OK) // not whole
	}
}

// TestSum: P13.2, whatever bits of the kind, the bytes or the sum are turned.
func TestSum(t *testing.T) {
	ahead, behind := frame(t, 7, "ahead"), frame(t, 8, "behind")
	one := frame(t, 3, "some bytes")
	for i := range len(one) - 1 {
		if i == 0 || i == 2 || i == 3 {
			continue
		}
		for bit := range 8 {
			b := slices.Clone(one)
			b[i] ^= 1 << bit
			reads(t, slices.Concat(ahead, b, behind), []Record{{7, []byte("ahead")}}, len(ahead), api.ErrSum)
			reads(t, b, nil, 0, api.ErrSum)
		}
	}
	reads(t, bad(3, ""), nil, 0, api.ErrSum)
	reads(t, slices.Concat(ahead, bad(3, "a"), byHand(0, nil)), []Record{{7, []byte("ahead")}}, len(ahead), api.ErrSum) // the first one counts
}

// TestForm: P13.2, the kind 0, ahead of the sum; the first fault counts.
func TestForm(t *testing.T) {
	ahead := frame(t, 7, "ahead")
	want := []Record{{7, []byte("ahead")}}
	for _, data := range []string{"", "a", "some bytes"} {
		for _, f := range [][]byte{byHand(0, []byte(data)), bad(0, data)} {
			reads(t, f, nil, 0, api.ErrForm)
			reads(t, slices.Concat(ahead, f, ahead, bad(3, "a")), want, len(ahead), api.ErrForm)
			reads(t, slices.Concat(ahead, f[:len(f)-1]), want, len(ahead), api.OK)
			f[len(f)-1] = 0xA4
			reads(t, slices.Concat(ahead, f), want, len(ahead), api.OK)
		}
	}
}

// some is some records that may be.
func some(r *rand.Rand) []Record {
	var l []Record
	for range r.Intn(6) {
		data := make([]byte, r.Intn(30))
		r.Read(data)
		for i := range data {
			if r.Intn(3) == 0 {
				data[i] = []byte{0, 0x5A, 0xA5}[r.Intn(3)]
			}
		}
		l = append(l, Record{1 + r.Intn(255), data})
	}
	return l
}

// written is the frames of records, and where each one ends.
func written(t *testing.T, l []Record) ([]byte, []int) {
	t.Helper()
	var out []byte
	var ends []int
	for _, r := range l {
		out = append(out, frame(t, r.Kind, string(r.Data))...)
		ends = append(ends, len(out))
	}
	return out, ends
}

// TestTorn: P13.3 and P2, of frames on noughts, or cut, of which just the first bytes last, just the whole ones are read.
func TestTorn(t *testing.T) {
	r := rand.New(rand.NewSource(13))
	for range 150 {
		l := some(r)
		all, ends := written(t, l)
		for n := range len(all) + 1 {
			torn := make([]byte, len(all)+r.Intn(70000))
			copy(torn, all[:n])
			k, end := 0, 0
			for k < len(l) && ends[k] <= n {
				end = ends[k]
				k++
			}
			reads(t, torn, l[:k], end, api.OK)
			reads(t, all[:n], l[:k], end, api.OK)
		}
	}
}

// TestAgain: P2, what is written is read as it was; what is read, written again, is the same.
func TestAgain(t *testing.T) {
	r := rand.New(rand.NewSource(14))
	for range 500 {
		l := some(r)
		all, _ := written(t, l)
		reads(t, all, l, len(all), api.OK)
		all = append(all, make([]byte, r.Intn(5))...)
		for range r.Intn(3) {
			if len(all) > 0 {
				all[r.Intn(len(all))] = []byte{0, 0x5A, 0xA5, byte(r.Intn(256))}[r.Intn(4)]
			}
		}
		got, n, _ := Read(all)
		if again, _ := written(t, got); !bytes.Equal(again, all[:n]) {
			t.Fatalf("again: %x, want %x", again, all[:n])
		}
	}
}

// byWords is what is read, by the words of the document.
func byWords(b []byte) ([]Record, int, api.Errno) {
	var l []Record
	all := len(b)
	for len(b) >= 9 && b[0] == 0x5A {
		n := int(binary.BigEndian.Uint16(b[2:]))
		if len(b) < n+9 || b[n+8] != 0xA5 {
			break
		}
		at := all - len(b)
		if b[1] == 0 || n > 60000 {
			return l, at, api.ErrForm
		}
		if crc.Of(append([]byte{b[1]}, b[4:n+4]...)) != binary.BigEndian.Uint32(b[n+4:]) {
			return l, at, api.ErrSum
		}
		l = append(l, Record{int(b[1]), slices.Clone(b[4 : n+4])})
		b = b[n+9:]
	}
	return l, all - len(b), api.OK
}

// TestAny: P13.2 and P1, whatever bytes are read, against the words of the document.
func TestAny(t *testing.T) {
	r := rand.New(rand.NewSource(15))
	var seen [17]int
	for range 20000 {
		var b []byte
		for range r.Intn(5) {
			data := make([]byte, r.Intn(4))
			f := byHand(byte(r.Intn(4)), data)
			if r.Intn(3) == 0 {
				f[r.Intn(len(f))] = []byte{0, 1, 2, 0x5A, 0xA5}[r.Intn(5)]
			}
			b = append(b, f...)
		}
		if r.Intn(2) == 0 {
			b = b[:r.Intn(len(b)+1)]
		}
		l, n, e := byWords(b)
		seen[e]++
		reads(t, b, l, n, e)
	}
	if seen[api.OK] < 100 || seen[api.ErrSum] < 100 || seen[api.ErrForm] < 100 {
		t.Errorf("too little: %v", seen)
	}
}

// TestOwnMemory: what is handed in is not changed, what is handed out is new memory, and so is each list in it.
func TestOwnMemory(t *testing.T) {
	data := []byte("abcdef")
	f, _ := Write(Record{1, data[:3]})
	for i := range f {
		f[i] = '?'
	}
	_ = append(f, '?')
	if string(data) != "abcdef" {
		t.Errorf("Write: %q", data)
	}
	b := slices.Concat(frame(t, 1, "abc"), frame(t, 2, "def"), []byte{0, 0})
	kept := slices.Clone(b)
	l, _, _ := Read(b[:len(b)-1])
	for i := range l {
		copy(l[i].Data, "???")
		l[i].Data = append(l[i].Data, "????????????????"...)
	}
	if !bytes.Equal(b, kept) {
		t.Errorf("Read: %x", b)
	}
	l, _, _ = Read(b)
	clear(b)
	if string(l[0].Data) != "abc" || string(l[1].Data) != "def" {
		t.Errorf("Read: %v", l)
	}
	l[0].Data = append(l[0].Data, "????????????????"...)
	if string(l[1].Data) != "def" {
		t.Errorf("Read: %v", l)
	}
}

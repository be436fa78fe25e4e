package crc

import (
	"hash/crc32"
	"math/bits"
	"math/rand"
	"slices"
	"testing"
)

// mirrored is the sum by the library: its sum goes over a byte's bits from the least one on, so bytes and sum are mirrored.
func mirrored(b []byte) uint32 {
	m := make([]byte, len(b))
	for i, c := range b {
		m[i] = bits.Reverse8(c)
	}
	return bits.Reverse32(crc32.ChecksumIEEE(m))
}

func randomBytes(r *rand.Rand, n int) []byte {
	b := make([]byte, n)
	r.Read(b)
	return b
}

// TestOfKnown: P1.1, sums that are known.
func TestOfKnown(t *testing.T) {
	for _, x := range []struct {
		text string
		want uint32
	}{
		{"123456789", 0xFC891918},
		{"", 0},
		{"\x00", 0xB1F7404B},
		{"\xFF", 0x000000FF},
		{"\xFF\xFF\xFF\xFF", 0xFFFFFFFF},
		{"\x00\x00\x00\x00", 0x38FB2284},
	} {
		if got := Of([]byte(x.text)); got != x.want {
			t.Errorf("Of(%q): %08X, not %08X", x.text, got, x.want)
		}
	}
	if Of(nil) != 0 {
		t.Errorf("Of(nil): %08X", Of(nil))
	}
}

// TestOf: P1.1, each byte alone, and lists of many lengths.
func TestOf(t *testing.T) {
	for c := range 256 {
		b := []byte{byte(c)}
		if got, want := Of(b), mirrored(b); got != want {
			t.Errorf("Of(%x): %08X, not %08X", b, got, want)
		}
	}
	r := rand.New(rand.NewSource(1))
	for n := range 600 {
		b := randomBytes(r, n)
		if got, want := Of(b), mirrored(b); got != want {
			t.Fatalf("Of of %d bytes: %08X, not %08X", n, got, want)
		}
	}
	b := randomBytes(r, 1<<20)
	if Of(b) != mirrored(b) {
		t.Errorf("Of of many bytes: %08X, not %08X", Of(b), mirrored(b))
	}
}

// TestJoinEmpty: P1.1 and P1, no lists at all, and lists of no bytes.
func TestJoinEmpty(t *testing.T) {
	for i, l := range [][][]byte{nil, {}, {nil}, {{}}, {nil, {}, nil}} {
		if got := Join(l...); got != 0 {
			t.Errorf("Join of nothing, %d: %08X", i, got)
		}
	}
	one := []byte("123456789")
	if Join(one) != 0xFC891918 || Join(nil, one, []byte{}) != 0xFC891918 {
		t.Errorf("Join of one: %08X, %08X", Join(one), Join(nil, one, []byte{}))
	}
}

// TestJoin: P1.1, the sum of lists is that of all bytes, wherever they are cut, and in their order.
func TestJoin(t *testing.T) {
	b := []byte("what stands on disks")
	for i := range len(b) + 1 {
		for j := i; j <= len(b); j++ {
			if got := Join(b[:i], b[i:j], b[j:]); got != mirrored(b) {
				t.Fatalf("Join, cut at %d and %d: %08X", i, j, got)
			}
		}
	}
	var single [][]byte
	for i := range b {
		single = append(single, b[i:i+1])
	}
	if got := Join(single...); got != mirrored(b) {
		t.Errorf("Join of single bytes: %08X", got)
	}
	if Join(b[4:], b[:4]) == Join(b[:4], b[4:]) {
		t.Errorf("Join does not hang on the order")
	}
}

// TestKeep: what is handed in stays as it was, and what lies behind a list's length plays no part.
func TestKeep(t *testing.T) {
	all := []byte("123456789 and more")
	old := slices.Clone(all)
	if Of(all[:9]) != 0xFC891918 || Join(all[:4], all[4:9]) != 0xFC891918 {
		t.Errorf("what lies behind the length is read")
	}
	l := [][]byte{all[:3], all[3:9], all}
	if Join(l[:2]...) != 0xFC891918 || len(l[0]) != 3 || len(l[1]) != 6 {
		t.Errorf("the lists are changed, or what lies behind them is read")
	}
	if !slices.Equal(all, old) {
		t.Errorf("the bytes are changed: %q", all)
	}
}

// turned is the bytes with the bits of a burst turned, from a bit on; the bits are counted from a byte's greatest one on.
func turned(b []byte, at int, burst uint32) []byte {
	b = slices.Clone(b)
	for i := range 32 {
		if burst>>i&1 == 1 {
			b[(at+i)/8] ^= 0x80 >> ((at + i) % 8)
		}
	}
	return b
}

// checkBurst: the sum is turned by a burst, wherever in the bytes it fits.
func checkBurst(t *testing.T, b []byte, burst uint32) {
	t.Helper()
	sum := Of(b)
	for at := 0; at+bits.Len32(burst) <= 8*len(b); at++ {
		if Of(turned(b, at, burst)) == sum {
			t.Fatalf("the burst %08X at %d of %x does not turn the sum", burst, at, b)
		}
	}
}

// TestBursts: P1.2, bits that are turned within 32 side by side turn the sum.
func TestBursts(t *testing.T) {
	r := rand.New(rand.NewSource(2))
	for _, n := range []int{1, 2, 4, 5, 9, 40} {
		b := randomBytes(r, n)
		for wide := range 32 {
			checkBurst(t, b, 1<<wide)
			checkBurst(t, b, 1<<wide|1)
			checkBurst(t, b, 1<<wide|(1<<wide-1))
		}
		for range 40 {
			checkBurst(t, b, r.Uint32()|1)
		}
	}
	for burst := uint32(1); burst < 1<<10; burst++ {
		checkBurst(t, []byte("burst"), burst)
	}
}

// TestBurstsBits: P1.2 of 32 bits, bit by bit: what single bits turn in the sum is such that no choice of them comes to nothing.
func TestBurstsBits(t *testing.T) {
	const n = 12
	zero := Of(make([]byte, n))
	for at := 0; at+32 <= 8*n; at++ {
		var rows [32]uint32 // by greatest bit
		for i := range 32 {
			row := Of(turned(make([]byte, n), at+i, 1)) ^ zero
			for row != 0 && rows[bits.Len32(row)-1] != 0 {
				row ^= rows[bits.Len32(row)-1]
			}
			if row == 0 {
				t.Fatalf("bits from %d to %d can be turned, and the sum stays", at, at+i)
			}
			rows[bits.Len32(row)-1] = row
		}
	}
}

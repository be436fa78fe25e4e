// Package crc has the check sum of what stands on disks and goes through nets: see shared/doc/01-crc.md.
package crc

const (
	ones = 0xFFFFFFFF // a sum begins as this, so that noughts ahead of all count too
	poly = 0x04C11DB7
)

// Of is the sum of bytes.
func Of(b []byte) uint32 { return Join(b) }

// Join is the sum of bytes, one behind the other.
func Join(l ...[]byte) uint32 {
	sum := uint32(ones)
	for _, b := range l {
		for _, c := range b {
			sum = step(sum, c)
		}
	}
	return sum ^ ones
}

// step is the sum behind one more byte.
func step(sum uint32, c byte) uint32 {
	sum ^= uint32(c) << 24
	for range 8 {
		fell := sum >> 31
		sum <<= 1
		if fell == 1 {
			sum ^= poly
		}
	}
	return sum
}

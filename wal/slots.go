package wal

import (
	"bytes"

	"trug/disk"
)

// How a slot is built.
const (
	first    = 0x5A
	slotSize = 16
	places   = 2
)

// together is bytes, one list behind the other.
func together(l ...[]byte) []byte {
	var out []byte
	for _, b := range l {
		out = append(out, b...)
	}
	return out
}

// slot is a slot's bytes.
func slot(gen uint32, area int) []byte {
	g := []byte{byte(gen >> 24), byte(gen >> 16), byte(gen >> 8), byte(gen)}
	return together([]byte{first}, g, []byte{byte(area)}, make([]byte, 6), g)
}

// place is where a generation's slot stands.
func place(gen uint32) int { return int(gen%places) * slotSize }

// newest is what the slot with the greater generation tells; the generation 0, if no slot stands at its place.
func newest(d *disk.Disk) (uint32, int) {
	gen, area := uint32(0), 0
	for i := range places {
		if g, a := told(d, i*slotSize); g > gen {
			gen, area = g, a
		}
	}
	return gen, area
}

// told is what the slot tells that stands somewhere; the generation 0, if none does.
func told(d *disk.Disk, at int) (uint32, int) {
	b, _ := d.Read(at, slotSize)
	gen := uint32(b[1])<<24 | uint32(b[2])<<16 | uint32(b[3])<<8 | uint32(b[4])
	area := int(b[5])
	if area > 1 || place(gen) != at || !bytes.Equal(b, slot(gen, area)) {
		return 0, 0
	}
	return gen, area
}

// areaSize is how many bytes each of a disk's areas has.
func areaSize(d *disk.Disk) int { return (d.Size() - places*slotSize) / 2 }

// areaAt is where an area's first byte is.
func areaAt(d *disk.Disk, area int) int { return places*slotSize + area*areaSize(d) }

package node

import (
	"slices"

	"trug/api"
	"trug/disk"
	"trug/input"
	"trug/state"
	"trug/step"
	"trug/tree"
	"trug/wal"
)

// partSize is how many bytes each part of a checkpoint has, but the last one.
const partSize = 50000

// Format is a node to which nothing happened.
func Format(t tree.Tree, n int, d *disk.Disk) (*Node, api.Errno) {
	s, e := state.New(t, n)
	if e != api.OK {
		return nil, e
	}
	l, e := wal.Format(d)
	if e != api.OK {
		return nil, e
	}
	return &Node{log: l, state: s}, api.OK
}

// Open is a node of what a disk's log says.
func Open(t tree.Tree, n int, d *disk.Disk) (*Node, api.Errno) {
	if _, e := state.New(t, n); e != api.OK {
		return nil, e
	}
	_, parts, records, e := wal.Open(copyOf(d)) // a log that is opened writes: what it says is looked at ahead of that
	if e != api.OK {
		return nil, e
	}
	s, e := said(t, n, parts, records)
	if e != api.OK {
		return nil, e
	}
	l, _, _, _ := wal.Open(d) // which tells what it told of the copy
	return &Node{log: l, state: s}, api.OK
}

// said is the state that a log tells.
func said(t tree.Tree, n int, parts, records [][]byte) (*state.State, api.Errno) {
	s, e := stored(t, n, parts)
	if e != api.OK {
		return nil, e
	}
	for _, b := range records {
		x, e := input.Read(b)
		if e != api.OK {
			return nil, api.ErrForm
		}
		step.Do(s, x)
	}
	return s, api.OK
}

// stored is the state of a checkpoint: a new one without.
func stored(t tree.Tree, n int, parts [][]byte) (*state.State, api.Errno) {
	if len(parts) == 0 {
		return state.New(t, n)
	}
	return state.Load(t, n, slices.Concat(parts...))
}

// inParts is a state's bytes, as the parts of a checkpoint.
func inParts(b []byte) [][]byte { return slices.Collect(slices.Chunk(b, partSize)) }

// copyOf is a disk of the same bytes; none of one that no call made.
func copyOf(d *disk.Disk) *disk.Disk {
	b, _ := d.Read(0, d.Size())
	c, _ := disk.New(len(b))
	c.Write(0, b)
	c.Flush() // each Read would else go through all that waits
	return c
}

package link

import (
	"trug/api"
	"trug/wire"
)

// Put writes a link behind others.
func (l *Link) Put(w *wire.Writer) {
	if !l.made() {
		return
	}
	w.Num(l.next).Num(uint64(len(l.items)))
	for _, x := range l.items {
		w.Text(x.Data)
	}
	w.Num(l.expect)
}

// Get reads a link.
func Get(r *wire.Reader) *Link {
	l := &Link{next: getNext(r)}
	n := uint64(r.Small(api.MaxQueue))
	r.Must(n < l.next)
	for i := range n {
		l.items = append(l.items, Item{l.next - n + i, getText(r)})
	}
	l.expect = getNext(r)
	if !l.made() { // of a reader that does not read nothing stands there
		return nil
	}
	return l
}

// getNext reads the number of a next text, which is above MaxTime, if there is none.
func getNext(r *wire.Reader) uint64 {
	n := r.Num()
	r.Must(n >= 1 && n <= api.MaxTime+1)
	return n
}

// getText reads a text.
func getText(r *wire.Reader) []byte {
	b := r.Text(api.MaxRecord)
	r.Must(isText(b))
	return b
}

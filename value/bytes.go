package value

import (
	"trug/api"
	"trug/wire"
)

// Write is a value's bytes.
func Write(v Value) ([]byte, api.Errno) {
	if !Right(v) {
		return nil, api.ErrForm
	}
	w := wire.New().Num(uint64(len(v)))
	for _, r := range v {
		putRow(w, r)
	}
	return w.Bytes(), api.OK
}

// Read is the value of bytes.
func Read(b []byte) (Value, api.Errno) {
	var v Value
	if wire.Read(b, func(r *wire.Reader) { v = get(r) }) != api.OK {
		return nil, api.ErrForm
	}
	return v, api.OK
}

// putRow writes a row that may be.
func putRow(w *wire.Writer, r Row) {
	m := r.Line.Mark
	w.Num(uint64(r.Seller)).Num(uint64(r.Line.Sku)).Num(uint64(r.Line.Qty)).Num(uint64(m.Flag))
	if m.Has {
		w.Num(1).Float(m.Price)
	} else {
		w.Num(0)
	}
}

// get reads a value.
func get(r *wire.Reader) Value {
	var v Value
	for range r.Small(maxRows) {
		v = append(v, getRow(r))
	}
	r.Must(Right(v))
	return v
}

// getRow reads a row; whether it may be is asked of the value as a whole.
func getRow(r *wire.Reader) Row {
	var row Row
	row.Seller = r.Small(api.MaxSellers)
	row.Line.Sku = r.Small(api.MaxSku)
	row.Line.Qty = r.Small(maxQty)
	row.Line.Mark.Flag = r.Small(api.MaxFlag)
	row.Line.Mark.Has = r.Small(1) == 1
	if row.Line.Mark.Has {
		row.Line.Mark.Price = r.Float()
	}
	return row
}

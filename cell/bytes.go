package cell

import (
	"math"

	"hawthorn/api"
	"hawthorn/wire"
)

// TakeView takes a view off bytes, that may be, or is empty.
func TakeView(r *wire.Reader) api.View {
	var v api.View
	v.V = r.Num(math.MaxUint64)
	v.Primary = int(r.Num(api.MostNode))
	v.PLife = r.Num(math.MaxUint64)
	v.Backup = int(r.Num(api.MostNode)) - 1
	v.BLife = r.Num(math.MaxUint64)
	v.Epoch = r.Num(math.MaxUint64)
	if v == (api.View{Backup: api.Nobody}) { // an empty one is written so
		return api.View{}
	}
	r.Must(Check(v))
	return v
}

// Put is a view's bytes; of an empty one those of a view without anybody.
func Put(v api.View) string {
	if v == (api.View{}) {
		v.Backup = api.Nobody
	}
	return wire.Num(v.V) +
		wire.Num(uint64(v.Primary)) +
		wire.Num(v.PLife) +
		wire.Num(uint64(v.Backup)+1) +
		wire.Num(v.BLife) +
		wire.Num(v.Epoch)
}

// Export is all of it as bytes.
func (c *Cell) Export() string {
	if !c.made() {
		return ""
	}
	return Put(c.chosen) + wire.Num(c.most) + wire.Num(c.ballot) + Put(c.value)
}

// Import is the cell of bytes.
func Import(bytes string) (*Cell, api.Errno) {
	var c *Cell
	e := wire.Read(bytes, func(r *wire.Reader) { c = take(r) })
	if e != api.OK {
		return nil, e
	}
	return c, api.OK
}

// take takes a cell off bytes.
func take(r *wire.Reader) *Cell {
	c := &Cell{chosen: TakeView(r)}
	c.most = r.Num(math.MaxUint64)
	c.ballot = r.Num(math.MaxUint64)
	c.value = TakeView(r)
	r.Must(c.agrees())
	return c
}

// agrees is whether calls can come to such a cell.
func (c *Cell) agrees() bool {
	if !c.made() || c.ballot > c.most {
		return false
	}
	if c.ballot == 0 {
		return c.value == api.View{}
	}
	return c.isNext(c.value)
}

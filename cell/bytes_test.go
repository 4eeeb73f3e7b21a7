package cell

import (
	"math"
	"testing"

	"hawthorn/api"
	"hawthorn/wire"
)

const (
	greatest = "\xff\xff\xff\xff\xff\xff\xff\xff\xff\x01" // 2^64 - 1
	noughts  = "\x00\x00\x00\x00\x00\x00"                 // an empty view
)

// takeView is what TakeView takes off bytes, and what Read tells of them.
func takeView(s string) (v api.View, e api.Errno) {
	e = wire.Read(s, func(r *wire.Reader) { v = TakeView(r) })
	return v, e
}

// fullest is a cell that promised more than it took.
func fullest(t *testing.T) *Cell {
	t.Helper()
	c := made(t, both(300))
	c.Accept(alone(301, 7), 1<<33)
	c.Prepare(both(300), 1<<34)
	return c
}

func TestBytesOfViews(t *testing.T) {
	for _, x := range []struct {
		v api.View
		s string
	}{
		{api.View{V: 1, Primary: 0, PLife: 2, Backup: 1, BLife: 3, Epoch: 4}, "\x01\x00\x02\x02\x03\x04"},
		{api.View{V: 1, Primary: 1, PLife: 2, Backup: 0, BLife: 3, Epoch: 4}, "\x01\x01\x02\x01\x03\x04"},
		{api.View{V: 300, Primary: 9, PLife: 128, Backup: api.Nobody, Epoch: 127}, "\xac\x02\x09\x80\x01\x00\x00\x7f"},
		{
			api.View{V: math.MaxUint64, Primary: api.MostNode - 1, PLife: math.MaxUint64, Backup: api.MostNode - 2, BLife: math.MaxUint64, Epoch: math.MaxUint64},
			greatest + "\xff\xff\x3f" + greatest + "\xff\xff\x3f" + greatest + greatest,
		},
		{api.View{V: 1, Primary: 0, PLife: 1, Backup: api.MostNode - 1, BLife: 1, Epoch: 1}, "\x01\x00\x01\x80\x80\x40\x01\x01"},
		{api.View{}, noughts},
	} {
		if s := Put(x.v); s != x.s {
			t.Errorf("%+v: %x, want %x", x.v, s, x.s)
		}
		if v, e := takeView(x.s); v != x.v || e != api.OK {
			t.Errorf("%x: %+v, %d, want %+v", x.s, v, e, x.v)
		}
	}
}

func TestBytesOfTheEmptyView(t *testing.T) {
	if s := Put(api.View{Backup: api.Nobody}); s != noughts {
		t.Errorf("of nobody: %x", s)
	}
	if v, e := takeView(noughts); v != (api.View{}) || e != api.OK {
		t.Errorf("noughts: %+v, %d", v, e)
	}
}

func TestPutWritesAnyView(t *testing.T) {
	for v, may := range views() {
		s := Put(v)
		got, e := takeView(s)
		empty := v == api.View{} || v == api.View{Backup: api.Nobody}
		switch {
		case may == 1 && (got != v || e != api.OK):
			t.Errorf("%+v comes back as %+v, %d", v, got, e)
		case empty && (got != api.View{} || e != api.OK):
			t.Errorf("an empty one comes back as %+v, %d", got, e)
		case may == 0 && !empty && (got != api.View{} || e != api.ErrForm && e != api.ErrOver):
			t.Errorf("%+v comes back as %+v, %d", v, got, e)
		}
	}
	if s := Put(api.View{V: 1, Primary: -1, PLife: 2, Backup: -2, BLife: 3, Epoch: 4}); s != "\x01"+greatest+"\x02"+greatest+"\x03\x04" {
		t.Errorf("below 0: %x", s)
	}
	if s := Put(api.View{Backup: 0, Epoch: 1}); s != "\x00\x00\x00\x01\x00\x01" {
		t.Errorf("almost empty: %x", s)
	}
}

func TestTakeViewTellsWhatCantBe(t *testing.T) {
	const most, over = "\x80\x80\x40", "\x81\x80\x40" // MostNode, and one more
	for _, x := range []struct {
		name, s string
		want    api.Errno
	}{
		{"no bytes", "", api.ErrShort},
		{"a part lacks", "\x01\x00\x02\x02\x03", api.ErrShort},
		{"a primary above the most", "\x01" + over + "\x01\x00\x00\x01", api.ErrOver},
		{"a backup above the most", "\x01\x00\x01" + over + "\x01\x01", api.ErrOver},
		{"a primary above the most, in an empty one", "\x00" + over + "\x00\x00\x00\x00", api.ErrOver},
		{"a primary above the most, at once", "\x01" + over, api.ErrOver},
		{"a backup above the most, at once", "\x00\x00\x00" + over, api.ErrOver},
		{"the greatest primary", "\x01" + greatest, api.ErrOver},
		{"the greatest backup", "\x01\x00\x01" + greatest, api.ErrOver},
		{"a primary that is the most", "\x01" + most + "\x01\x00\x00\x01", api.ErrForm},
		{"behind all of it", "\x01" + most + "\x01\x00\x00", api.ErrShort},
		{"over, behind one that is the most", "\x01" + most + "\x01" + over, api.ErrOver},
		{"the number 0", "\x00\x00\x01\x02\x01\x01", api.ErrForm},
		{"the number 0, with a part that lacks", "\x00\x00\x01\x02\x01", api.ErrShort},
		{"the number 0, and bytes that are left", "\x00\x00\x01\x02\x01\x01\x00", api.ErrForm},
		{"the epoch 0", "\x01\x00\x01\x02\x01\x00", api.ErrForm},
		{"the primary's life 0", "\x01\x00\x00\x02\x01\x01", api.ErrForm},
		{"the backup's life 0", "\x01\x00\x01\x02\x00\x01", api.ErrForm},
		{"nobody's life 1", "\x01\x00\x01\x00\x01\x01", api.ErrForm},
		{"its own backup", "\x01\x00\x01\x01\x01\x01", api.ErrForm},
		{"noughts, but the number", "\x01\x00\x00\x00\x00\x00", api.ErrForm},
		{"noughts, but the primary", "\x00\x01\x00\x00\x00\x00", api.ErrForm},
		{"noughts, but the primary's life", "\x00\x00\x01\x00\x00\x00", api.ErrForm},
		{"noughts, but the backup", "\x00\x00\x00\x01\x00\x00", api.ErrForm}, // though all of it is noughts, when it was read
		{"noughts, but the backup's life", "\x00\x00\x00\x00\x01\x00", api.ErrForm},
		{"noughts, but the epoch", "\x00\x00\x00\x00\x00\x01", api.ErrForm},
		{"a number that is not in its shortest form", "\x81\x00\x00\x01\x02\x01\x01", api.ErrForm},
		{"noughts, and bytes that are left", noughts + "\x00", api.ErrExtra},
		{"bytes that are left", "\x01\x00\x02\x02\x03\x04\x05", api.ErrExtra},
	} {
		if _, e := takeView(x.s); e != x.want {
			t.Errorf("%s: %d, want %d", x.name, e, x.want)
		}
	}
}

func TestTakeViewTakesNoMoreThanAView(t *testing.T) {
	e := wire.Read(Put(both(1))+Put(api.View{})+Put(alone(2, 0)), func(r *wire.Reader) {
		for _, want := range []api.View{both(1), {}, alone(2, 0)} {
			if v := TakeView(r); v != want {
				t.Errorf("%+v, want %+v", v, want)
			}
		}
	})
	if e != api.OK {
		t.Error(e)
	}
}

func TestTakeViewWhereNothingIsRead(t *testing.T) {
	if v := TakeView(nil); v != (api.View{}) {
		t.Errorf("nil: %+v", v)
	}
	var over *wire.Reader
	wire.Read("", func(r *wire.Reader) { over = r })
	if v := TakeView(over); v != (api.View{}) {
		t.Errorf("over: %+v", v)
	}
}

func TestBytesOfCells(t *testing.T) {
	const chosen, value = "\xac\x02\x00\x01\x02\x02\x01", "\xad\x02\x07\x03\x00\x00\x01"
	c := made(t, both(300))
	wantBytes(t, "new", c, chosen+"\x00\x00"+noughts)
	c.Prepare(both(300), 128)
	wantBytes(t, "promised", c, chosen+"\x80\x01\x00"+noughts)
	c.Accept(alone(301, 7), 129)
	wantBytes(t, "taken", c, chosen+"\x81\x01\x81\x01"+value)
	c.Prepare(both(300), math.MaxUint64)
	wantBytes(t, "promised more than it took", c, chosen+greatest+"\x81\x01"+value)
	c.Learn(alone(301, 7))
	wantBytes(t, "learned", c, value+"\x00\x00"+noughts)
}

// wantBytes holds a cell's bytes against what they must be, and against those of the cell that they come back as.
func wantBytes(t *testing.T, name string, c *Cell, want string) {
	t.Helper()
	if s := c.Export(); s != want {
		t.Errorf("%s: %x, want %x", name, s, want)
	}
	same, e := Import(want)
	if e != api.OK || same.Export() != want || same.Chosen() != c.Chosen() {
		t.Fatalf("%s: it comes back as %x, %d", name, same.Export(), e)
	}
	wantTold(t, name+", come back", same.Accept(api.View{}, 0), c.Accept(api.View{}, 0)) // all that both know
}

func TestOneThatCameBackIsApart(t *testing.T) {
	c := fullest(t)
	s := c.Export()
	same, e := Import(s)
	if e != api.OK {
		t.Fatal(e)
	}
	same.Learn(both(999))
	if c.Export() != s || same.Export() == s {
		t.Error("two cells are one")
	}
}

func TestImportTellsWhatCantBe(t *testing.T) {
	const chosen, value = "\x01\x00\x01\x02\x01\x01", "\x02\x01\x01\x00\x00\x01"
	for _, x := range []struct {
		name, s string
		want    api.Errno
	}{
		{"no bytes", "", api.ErrShort},
		{"no more than a view", chosen, api.ErrShort},
		{"no view that was taken", chosen + "\x01\x00", api.ErrShort},
		{"all of it", chosen + "\x05\x04" + value, api.OK},
		{"the ballot that was taken is the greatest one", chosen + "\x05\x05" + value, api.OK},
		{"the ballot that was taken is above the greatest one", chosen + "\x04\x05" + value, api.ErrForm},
		{"it is above 0", chosen + "\x00\x01" + value, api.ErrForm},
		{"a ballot without a view", chosen + "\x05\x04" + noughts, api.ErrForm},
		{"a view without a ballot", chosen + "\x05\x00" + value, api.ErrForm},
		{"a view without any ballot", chosen + "\x00\x00" + value, api.ErrForm},
		{"neither", chosen + "\x05\x00" + noughts, api.OK},
		{"nothing is chosen", noughts + "\x00\x00" + noughts, api.ErrForm},
		{"nothing is chosen, but a ballot is known", noughts + "\x05\x00" + noughts, api.ErrForm},
		{"nothing is chosen, but the first one was taken", noughts + "\x05\x05" + chosen, api.ErrForm},
		{"the chosen one was taken", chosen + "\x05\x05" + chosen, api.ErrForm},
		{"the one behind the next one was taken", chosen + "\x05\x05\x03\x01\x01\x00\x00\x01", api.ErrForm},
		{"one ahead of the chosen one was taken", "\x02\x00\x01\x02\x01\x01" + "\x05\x05" + chosen, api.ErrForm},
		{"one behind the last number was taken", greatest + "\x00\x01\x02\x01\x01" + "\x05\x05" + noughts, api.ErrForm},
		{"the last number", greatest + "\x00\x01\x02\x01\x01" + "\x05\x00" + noughts, api.OK},
		{"the chosen one may not be", "\x01\x00\x01\x01\x01\x01" + "\x05\x04" + value, api.ErrForm},
		{"the one that was taken may not be", chosen + "\x05\x04" + "\x02\x01\x01\x00\x01\x01", api.ErrForm},
		{"the chosen one's primary is above the most", "\x01\x81\x80\x40", api.ErrOver},
		{"the taken one's backup is above the most", chosen + "\x05\x04\x02\x01\x01\x81\x80\x40", api.ErrOver},
		{"a wrong view ahead of one above the most", "\x01\x00\x01\x01\x01\x01" + "\x05\x04\x02\x81\x80\x40", api.ErrForm},
		{"nothing chosen, asked behind what is above the most", noughts + "\x05\x04\x02\x81\x80\x40", api.ErrOver},
		{"nothing chosen, asked behind what lacks", noughts + "\x05\x04\x02", api.ErrShort},
		{"a ballot above the greatest one, asked behind what lacks", chosen + "\x04\x05\x02\x01", api.ErrShort},
		{"a ballot that is not in its shortest form", chosen + "\x85\x00\x04" + value, api.ErrForm},
		{"bytes that are left", chosen + "\x05\x04" + value + "\x00", api.ErrExtra},
		{"bytes that are left behind what is of no form", chosen + "\x04\x05" + value + "\x00", api.ErrForm},
	} {
		c, e := Import(x.s)
		if e != x.want || (c == nil) != (e != api.OK) {
			t.Errorf("%s: %v, %d, want %d", x.name, c, e, x.want)
		}
		if e == api.OK && c.Export() != x.s {
			t.Errorf("%s: %x, want %x", x.name, c.Export(), x.s)
		}
	}
}

func TestImportOfAPart(t *testing.T) {
	s := fullest(t).Export()
	for n := range s {
		if c, e := Import(s[:n]); c != nil || e != api.ErrShort {
			t.Errorf("%d bytes: %v, %d", n, c, e)
		}
	}
	for b := range 256 {
		if c, e := Import(s + string([]byte{byte(b)})); c != nil || e != api.ErrExtra {
			t.Errorf("with byte %d: %v, %d", b, c, e)
		}
	}
}

// Spoilt bytes that are still read are a cell with just these bytes.
func TestImportOfSpoiltBytes(t *testing.T) {
	s := fullest(t).Export()
	read := 0
	for n := range s {
		for b := range 256 {
			spoilt := s[:n] + string([]byte{byte(b)}) + s[n+1:]
			c, e := Import(spoilt)
			if e != api.OK {
				if c != nil {
					t.Errorf("%x: a cell beside %d", spoilt, e)
				}
				continue
			}
			read++
			if c.Export() != spoilt || !Check(c.Chosen()) {
				t.Errorf("%x comes back as %x", spoilt, c.Export())
			}
		}
	}
	if read < len(s) {
		t.Error("too few could be read:", read)
	}
}

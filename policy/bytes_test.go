package policy

import (
	"strings"
	"testing"

	"hawthorn/api"
	"hawthorn/wire"
)

const (
	arcRings  = "\x04\x05\x01\x01b\x01\x01a\x00\x00"
	arcBytes  = "\x01" + "\x02\x00" + arcRings // keeps two: b once, a more often
	tinyRings = "\x03\x03\x01\x01b\x01\x01a\x00"
)

// tinyBytes is the bytes of one that keeps two, of which its sketch saw nothing.
func tinyBytes() string {
	return "\x02" + "\x02" + "\x10\x07" + strings.Repeat("\x00", 1+5*16) + tinyRings
}

func TestExportHasTheKindAndThePolicy(t *testing.T) {
	a := fresh(t, api.PolicyArc, 2, 7)
	a.Insert("a")
	a.Touch("a")
	a.Insert("b")
	if got := a.Export(); got != arcBytes {
		t.Errorf("arc: the bytes are %x, not %x", got, arcBytes)
	}
	none := "\x02" + "\x02" + "\x10\x07" + strings.Repeat("\x00", 1+5*16) + "\x03\x03\x00\x00\x00"
	if got := fresh(t, api.PolicyTiny, 2, 7).Export(); got != none {
		t.Errorf("tiny: the bytes are %x, not %x", got, none)
	}
}

func TestImportIsWhatItWas(t *testing.T) {
	for _, x := range []struct {
		kind int
		s    string
	}{{api.PolicyArc, arcBytes}, {api.PolicyTiny, tinyBytes()}} {
		p, e := Import(x.s)
		if e != api.OK || p.Kind() != x.kind || p.Export() != x.s || p.Len() != 2 || !p.Has("a") || !p.Has("b") {
			t.Fatalf("kind %d: %v, %d", x.kind, p, e)
		}
		other, _ := Import(x.s)
		p.Insert("c")
		p.Touch("c")
		p.Miss("d")
		p.Evict()
		if other.Export() != x.s {
			t.Errorf("kind %d: two of the same bytes share something", x.kind)
		}
	}
}

func TestImportTellsWhatCantBe(t *testing.T) {
	sk := "\x10\x07" + strings.Repeat("\x00", 1+5*16)
	const long = "\x80\x80\x80\x80\x80\x80\x80\x80\x80" // nine bytes, and none of them is the last one
	for _, x := range []struct {
		name, s string
		want    api.Errno
	}{
		{"arc", arcBytes, api.OK},
		{"tiny", tinyBytes(), api.OK},
		{"nothing", "", api.ErrShort},
		{"kind 0", "\x00", api.ErrForm}, // ahead of the bytes' end
		{"kind 0, and an arc", "\x00" + arcBytes[1:], api.ErrForm},
		{"kind 0, and a tiny", "\x00" + tinyBytes()[1:], api.ErrForm},
		{"kind 0, and an arc that is too great", "\x00\xe9\x07", api.ErrForm},
		{"kind 3", "\x03", api.ErrOver}, // ahead of the bytes' end
		{"kind 3, and an arc", "\x03" + arcBytes[1:], api.ErrOver},
		{"kind 3, and a tiny", "\x03" + tinyBytes()[1:], api.ErrOver},
		{"kind 3, and an arc that keeps none", "\x03\x00", api.ErrOver},
		{"kind 127", "\x7f", api.ErrOver},
		{"kind 257", "\x81\x02" + arcBytes[1:], api.ErrOver},
		{"the greatest kind", "\xff" + long[1:] + "\x01", api.ErrOver},
		{"kind 2^32 and 1", "\x81\x80\x80\x80\x10" + arcBytes[1:], api.ErrOver},
		{"kind 1 not in its shortest form", "\x81\x00" + arcBytes[1:], api.ErrForm},
		{"kind 0 not in its shortest form", "\x80\x00", api.ErrForm},
		{"half a kind", "\x81", api.ErrShort},
		{"a kind of eleven bytes", long + "\x80\x01", api.ErrForm},
		{"a kind of 65 bits", long + "\x02", api.ErrForm},
		{"just arc", "\x01", api.ErrShort},
		{"just tiny", "\x02", api.ErrShort},
		{"arc that keeps none", "\x01\x00", api.ErrForm},
		{"tiny that keeps none", "\x02\x00", api.ErrForm},
		{"arc that keeps too many", "\x01\xe9\x07", api.ErrOver},
		{"tiny that keeps too many", "\x02\xe9\x07", api.ErrOver},
		{"arc with a target too great", "\x01\x02\x03" + arcRings, api.ErrOver},
		{"arc with the greatest target", "\x01\x02\x02" + arcRings, api.OK},
		{"arc with three lists", "\x01\x02\x00" + tinyRings, api.ErrForm},
		{"arc with places too few", "\x01\x02\x00" + "\x04\x04\x00\x00\x00\x00", api.ErrForm},
		{"arc with a key twice", "\x01\x02\x00" + "\x04\x05\x01\x01a\x01\x01a\x00\x00", api.ErrForm},
		{"arc with too long a key", "\x01\x02\x00" + "\x04\x05\x01\x41", api.ErrOver},
		{"arc with too many lists", "\x01\x02\x00" + "\x09", api.ErrOver},
		{"tiny with another width", "\x02\x02" + "\x11\x07" + strings.Repeat("\x00", 1+5*17) + tinyRings, api.ErrForm},
		{"tiny with a width too great", "\x02\x02" + "\x81\x20", api.ErrOver},
		{"tiny with a counter too great", "\x02\x02" + "\x10\x07\x00\x10" + sk[4:] + tinyRings, api.ErrForm},
		{"tiny with four lists", "\x02\x02" + sk + "\x04\x03\x00\x00\x00\x00", api.ErrForm},
		{"tiny with a window that has too many", "\x02\x02" + sk + "\x03\x03\x02\x01a\x01b\x00\x00", api.ErrForm},
		{"tiny with too many places", "\x02\x02" + sk + "\x03\x81\x20", api.ErrOver},
		{"an arc as tiny", "\x02" + arcBytes[1:], api.ErrForm},
		{"a tiny as arc", "\x01" + tinyBytes()[1:], api.ErrOver},
		{"arc, a byte too many", arcBytes + "\x00", api.ErrExtra},
		{"tiny, a byte too many", tinyBytes() + "\x00", api.ErrExtra},
		{"arc with three lists, a byte too many", "\x01\x02\x00" + tinyRings + "\x00", api.ErrForm},
	} {
		p, e := Import(x.s)
		if e != x.want || (p != nil) != (e == api.OK) {
			t.Errorf("%s: %v, %d, not %d", x.name, p, e, x.want)
		}
	}
}

func TestImportOfBytesThatEnd(t *testing.T) {
	for _, all := range []string{arcBytes, tinyBytes()} {
		for n := range all {
			if p, e := Import(all[:n]); p != nil || e != api.ErrShort {
				t.Errorf("%d bytes of %d: %v, %d", n, len(all), p, e)
			}
		}
	}
}

// Whatever bytes are taken for a policy, it comes back from its own bytes, and keeps no more than it may.
func TestImportOfSpoiltBytes(t *testing.T) {
	for _, all := range []string{arcBytes, tinyBytes()} {
		for at := range all {
			for b := range 256 {
				p, e := Import(all[:at] + string([]byte{byte(b)}) + all[at+1:])
				if (p != nil) != (e == api.OK) {
					t.Fatalf("byte %d is %d: %v, %d", at, b, p, e)
				}
				if p == nil {
					continue
				}
				for _, s := range walk(30) {
					s.do(p, p.Miss)
				}
				same, e := Import(p.Export())
				if e != api.OK || same.Export() != p.Export() || p.Len() > 2 {
					t.Fatalf("byte %d is %d: %d are kept, %d", at, b, p.Len(), e)
				}
			}
		}
	}
}

func TestTakeLeavesWhatIsBehind(t *testing.T) {
	e := wire.Read("x"+arcBytes+tinyBytes()+arcBytes+"yz", func(r *wire.Reader) {
		r.Bytes(1)
		for _, want := range []string{arcBytes, tinyBytes(), arcBytes} {
			if p := Take(r); p.Export() != want {
				t.Errorf("it has the bytes %x, not %x", p.Export(), want)
			}
		}
		if r.Left() != 2 || r.Bytes(2) != "yz" {
			t.Error("left:", r.Left())
		}
	})
	if e != api.OK {
		t.Error(e)
	}
}

func TestTakeEndsTheReading(t *testing.T) {
	for _, x := range []struct {
		s    string
		want api.Errno
	}{
		{"", api.ErrShort}, {"\x00", api.ErrForm}, {"\x03", api.ErrOver}, {"\x01", api.ErrShort}, {"\x02", api.ErrShort},
		{"\x01\x00", api.ErrForm}, {"\x02\x00", api.ErrForm}, {"\x01\xe9\x07", api.ErrOver}, {"\x02\xe9\x07", api.ErrOver},
	} {
		e := wire.Read(x.s, func(r *wire.Reader) {
			Take(r)
			t.Errorf("%x: it goes on", x.s)
		})
		if e != x.want {
			t.Errorf("%x: %d, not %d", x.s, e, x.want)
		}
	}
}

func TestTakeWhereNothingIsRead(t *testing.T) {
	var over *wire.Reader
	wire.Read(arcBytes, func(r *wire.Reader) { over = r })
	for _, r := range []*wire.Reader{nil, {}, over} {
		if p := Take(r); p != nil {
			t.Errorf("%v", p)
		}
	}
}

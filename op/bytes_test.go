package op

import (
	"strings"
	"testing"

	"hawthorn/api"
	"hawthorn/wire"
)

// readOp is the operation of bytes, and what Read tells of them.
func readOp(s string) (o api.Op, e api.Errno) {
	e = wire.Read(s, func(r *wire.Reader) { o = Take(r) })
	return o, e
}

// readReply is the reply of bytes, and what Read tells of them.
func readReply(s string) (x api.Reply, e api.Errno) {
	e = wire.Read(s, func(r *wire.Reader) { x = TakeReply(r) })
	return x, e
}

// nine is nine bytes of a number, none of which is the last one.
const nine = "\xff\xff\xff\xff\xff\xff\xff\xff\xff"

func TestTakeIsWhatItWas(t *testing.T) {
	for _, x := range examples() {
		if got, e := readOp(x.s); got != x.o || e != api.OK {
			t.Errorf("%.40q is %.40v, %d, not %.40v", x.s, got, e, x.o)
		}
	}
}

func TestTakeReplyIsWhatItWas(t *testing.T) {
	for s, want := range replies() {
		if got, e := readReply(s); got != want || e != api.OK {
			t.Errorf("%.40q is %.40v, %d, not %.40v", s, got, e, want)
		}
	}
}

// wrong is bytes and what is told of them.
type wrong struct {
	name, s string
	want    api.Errno
}

// wrongOps are bytes that are no operation.
func wrongOps() []wrong {
	overKey, overValue := "\x41"+key+"k", "\x81\x20"+value+"v"
	const overTTL = "\x81\x80\x80\x80\x04"
	return []wrong{
		{"nothing", "", api.ErrShort},
		{"kind 0", "\x00", api.ErrForm}, // ahead of the bytes' end
		{"kind 0 with a key", "\x00\x01a", api.ErrForm},
		{"kind 0 with too long a key", "\x00" + overKey, api.ErrForm},
		{"kind 6", "\x06", api.ErrOver},
		{"kind 6 with a key", "\x06\x01a", api.ErrOver},
		{"kind 127", "\x7f", api.ErrOver},
		{"kind 257", "\x81\x02\x01a", api.ErrOver},
		{"kind 2^32 and 1", "\x81\x80\x80\x80\x10\x01a", api.ErrOver},
		{"the greatest kind", nine + "\x01\x01a", api.ErrOver},
		{"a kind of 65 bits", nine + "\x02\x01a", api.ErrForm},
		{"a kind not in its shortest form", "\x81\x00\x01a", api.ErrForm},
		{"half a kind", "\x81", api.ErrShort},

		{"get without a key", "\x01\x00", api.ErrForm},
		{"get with too long a key", "\x01" + overKey, api.ErrOver},
		{"get with too long a key that lacks", "\x01\x41", api.ErrOver},
		{"get with the longest key, which lacks", "\x01\x40", api.ErrShort},
		{"get with a length not in its shortest form", "\x01\x81\x00a", api.ErrForm},
		{"get with a value", "\x01\x01a\x01x", api.ErrExtra},
		{"get without a key, and more", "\x01\x00\x00", api.ErrForm},

		{"put without a key", "\x02\x00\x01x\x00", api.ErrForm},
		{"put without a key, its value lacks", "\x02\x00", api.ErrShort}, // what may not be is asked behind all
		{"put without a key, its TTL lacks", "\x02\x00\x01x", api.ErrShort},
		{"put without a key, with too long a value", "\x02\x00" + overValue + "\x00", api.ErrOver},
		{"put without a key, with a TTL too great", "\x02\x00\x01x" + overTTL, api.ErrOver},
		{"put with too long a key", "\x02" + overKey + "\x00\x00", api.ErrOver},
		{"put with too long a value", "\x02\x01a" + overValue + "\x00", api.ErrOver},
		{"put with too long a value that lacks", "\x02\x01a\x81\x20", api.ErrOver},
		{"put with the longest value, which lacks", "\x02\x01a\x80\x20", api.ErrShort},
		{"put with a TTL too great", "\x02\x01a\x00" + overTTL, api.ErrOver},
		{"put with the greatest TTL", "\x02\x01a\x00" + nine + "\x01", api.ErrOver},
		{"put with a TTL of 65 bits", "\x02\x01a\x00" + nine + "\x02", api.ErrForm},
		{"put with a TTL not in its shortest form", "\x02\x01a\x00\x80\x00", api.ErrForm},
		{"put with a version", "\x02\x01a\x00\x00\x01", api.ErrExtra},
		{"put without a key, with a version", "\x02\x00\x00\x00\x01", api.ErrForm},

		{"del without a key", "\x03\x00", api.ErrForm},
		{"del with too long a key", "\x03" + overKey, api.ErrOver},
		{"del with a value", "\x03\x01a\x01x", api.ErrExtra},

		{"cas without a key", "\x04\x00\x00\x00\x01", api.ErrForm},
		{"cas without a key, its version lacks", "\x04\x00\x00\x00", api.ErrShort},
		{"cas with too long a key", "\x04" + overKey + "\x00\x00\x01", api.ErrOver},
		{"cas with too long a value", "\x04\x01a" + overValue + "\x00\x01", api.ErrOver},
		{"cas with a TTL too great, with version 0", "\x04\x01a\x00" + overTTL + "\x00", api.ErrOver},
		{"cas with version 0", "\x04\x01a\x01x\x00\x00", api.ErrForm},
		{"cas with version 0, and more", "\x04\x01a\x01x\x00\x00\x00", api.ErrForm},
		{"cas with a version of 65 bits", "\x04\x01a\x01x\x00" + nine + "\x02", api.ErrForm},
		{"cas with a version not in its shortest form", "\x04\x01a\x01x\x00\x81\x00", api.ErrForm},
		{"cas without a version", "\x04\x01a\x01x\x00", api.ErrShort},
		{"cas, and more", "\x04\x01a\x01x\x00\x01\x00", api.ErrExtra},

		{"mark with a key", "\x05\x01a", api.ErrExtra},
		{"mark with an empty key", "\x05\x00", api.ErrExtra},
	}
}

func TestTakeTellsWhatCantBe(t *testing.T) {
	for _, x := range wrongOps() {
		if _, e := readOp(x.s); e != x.want {
			t.Errorf("%s: %d, not %d", x.name, e, x.want)
		}
	}
}

func TestGetTellsWhatCantBe(t *testing.T) {
	for _, x := range wrongOps() {
		if got, e := Get("\x01\x02\x03\x04" + x.s); got != (api.Record{}) || e != x.want {
			t.Errorf("%s: %.40v, %d, not %d", x.name, got, e, x.want)
		}
	}
	for _, x := range []wrong{
		{"all at their limits", strings.Repeat(nine+"\x01", 4) + "\x05", api.OK},
		{"nothing", "", api.ErrShort},
		{"just a place", "\x01", api.ErrShort},
		{"no operation", "\x01\x02\x03\x04", api.ErrShort},
		{"a place of 65 bits", nine + "\x02\x02\x03\x04\x05", api.ErrForm},
		{"a tick not in its shortest form", "\x01\x82\x00\x03\x04\x05", api.ErrForm},
		{"a session of 65 bits", "\x01\x02" + nine + "\x02\x04\x05", api.ErrForm},
		{"a number not in its shortest form, and kind 6", "\x01\x02\x03\x84\x00\x06", api.ErrForm},
		{"more", "\x01\x02\x03\x04\x05\x00", api.ErrExtra},
		{"two", "\x01\x02\x03\x04\x05\x02\x02\x03\x05\x05", api.ErrExtra},
	} {
		got, e := Get(x.s)
		if e != x.want || (got != api.Record{}) != (e == api.OK) {
			t.Errorf("%s: %v, %d, not %d", x.name, got, e, x.want)
		}
	}
}

func TestTakeReplyTellsWhatCantBe(t *testing.T) {
	for _, x := range []wrong{
		{"the greatest error", "\xff\xff\x03\x00\x00", api.OK},
		{"an error of 2^16", "\x80\x80\x04\x00\x00", api.ErrOver},
		{"an error of 2^16, and nothing", "\x80\x80\x04", api.ErrOver},
		{"an error of 2^32", "\x80\x80\x80\x80\x10\x00\x00", api.ErrOver},
		{"the greatest number as an error", nine + "\x01\x00\x00", api.ErrOver},
		{"an error of 65 bits", nine + "\x02\x00\x00", api.ErrForm},
		{"an error not in its shortest form", "\x80\x00\x00\x00", api.ErrForm},
		{"nothing", "", api.ErrShort},
		{"just an error", "\x02", api.ErrShort},
		{"the longest value", "\x00\x80\x20" + value + "\x00", api.OK},
		{"too long a value", "\x00\x81\x20" + value + "v\x00", api.ErrOver},
		{"too long a value that lacks", "\x00\x81\x20", api.ErrOver},
		{"a value that lacks", "\x00\x03xy", api.ErrShort},
		{"no version", "\x00\x01x", api.ErrShort},
		{"a version of 65 bits", "\x00\x01x" + nine + "\x02", api.ErrForm},
		{"a version not in its shortest form", "\x00\x01x\x81\x00", api.ErrForm},
		{"more", "\x00\x01x\x01\x00", api.ErrExtra},
	} {
		if _, e := readReply(x.s); e != x.want {
			t.Errorf("%s: %d, not %d", x.name, e, x.want)
		}
	}
}

func TestBytesThatEnd(t *testing.T) {
	for _, x := range examples() {
		for n := range min(len(x.s), 300) {
			if _, e := readOp(x.s[:n]); e != api.ErrShort {
				t.Errorf("%d bytes of %.40q: %d", n, x.s, e)
			}
			if got, e := Get("\x01\x02\x03\x04" + x.s[:n]); got != (api.Record{}) || e != api.ErrShort {
				t.Errorf("a record with %d bytes of %.40q: %v, %d", n, x.s, got, e)
			}
		}
	}
	for s := range replies() {
		for n := range min(len(s), 300) {
			if _, e := readReply(s[:n]); e != api.ErrShort {
				t.Errorf("%d bytes of %.40q: %d", n, s, e)
			}
		}
	}
}

// Whatever bytes are taken for a record, its operation may be, and its own bytes are these.
func TestGetOfSpoiltBytes(t *testing.T) {
	for _, o := range []api.Op{
		{Kind: 1, Key: "a"},
		{Kind: 2, Key: "ab", Value: "xyz", TTL: 300},
		{Kind: 3, Key: "abc"},
		{Kind: 4, Key: "ab", Value: "xyz", TTL: 300, Version: 128},
		{Kind: 5},
	} {
		all := PutRecord(api.Record{Seq: 300, Now: 7, Session: 10, Num: 2, Op: o})
		for at := range all {
			for b := range 256 {
				s := all[:at] + string([]byte{byte(b)}) + all[at+1:]
				x, e := Get(s)
				if e == api.OK && (!Check(x.Op) || PutRecord(x) != s) {
					t.Fatalf("%q is read as %v", s, x)
				}
				if e != api.OK && x != (api.Record{}) {
					t.Fatalf("%q: %v, %d", s, x, e)
				}
			}
		}
	}
}

func TestTakeLeavesWhatIsBehind(t *testing.T) {
	record := api.Record{Seq: 300, Now: 7, Session: 10, Num: 2, Op: api.Op{Kind: 2, Key: "a", Value: "x"}}
	reply := api.Reply{E: api.ErrNone, Value: "y", Version: 3}
	all := "x" + PutReply(reply) + PutRecord(record)
	for _, x := range examples() {
		all += x.s
	}
	e := wire.Read(all+PutRecord(record)+"yz", func(r *wire.Reader) {
		r.Bytes(1)
		if got := TakeReply(r); got != reply {
			t.Errorf("%v, not %v", got, reply)
		}
		if got := TakeRecord(r); got != record {
			t.Errorf("%v, not %v", got, record)
		}
		for _, x := range examples() {
			if got := Take(r); got != x.o {
				t.Errorf("%.40v, not %.40v", got, x.o)
			}
		}
		if got := TakeRecord(r); got != record {
			t.Errorf("%v, not %v", got, record)
		}
		if r.Left() != 2 || r.Bytes(2) != "yz" {
			t.Error("left:", r.Left())
		}
	})
	if e != api.OK {
		t.Error(e)
	}
}

func TestTakeEndsTheReading(t *testing.T) {
	for _, x := range []struct {
		s    string
		take func(r *wire.Reader)
		want api.Errno
	}{
		{"\x00", func(r *wire.Reader) { Take(r) }, api.ErrForm},
		{"\x06", func(r *wire.Reader) { Take(r) }, api.ErrOver},
		{"\x01\x00", func(r *wire.Reader) { Take(r) }, api.ErrForm},
		{"\x01\x02\x03\x04\x00", func(r *wire.Reader) { TakeRecord(r) }, api.ErrForm},
		{"\x01\x02\x03", func(r *wire.Reader) { TakeRecord(r) }, api.ErrShort},
		{"\x80\x80\x04", func(r *wire.Reader) { TakeReply(r) }, api.ErrOver},
	} {
		e := wire.Read(x.s, func(r *wire.Reader) {
			x.take(r)
			t.Errorf("%x: it goes on", x.s)
		})
		if e != x.want {
			t.Errorf("%x: %d, not %d", x.s, e, x.want)
		}
	}
}

func TestTakeWhereNothingIsRead(t *testing.T) {
	var over *wire.Reader
	wire.Read("\x01\x01a", func(r *wire.Reader) { over = r })
	for _, r := range []*wire.Reader{nil, {}, over} {
		if o, x, y := Take(r), TakeRecord(r), TakeReply(r); o != (api.Op{}) || x != (api.Record{}) || y != (api.Reply{}) {
			t.Errorf("%v, %v, %v", o, x, y)
		}
	}
}

package op

import (
	"strings"
	"testing"

	"hawthorn/api"
)

const (
	greatest = 1<<63 - 1
	smallest = -1 << 63
	most     = 1<<64 - 1
)

// key and value are the longest that may be.
var (
	key   = strings.Repeat("k", 64)
	value = strings.Repeat("v", 4096)
)

// kinds are all kinds of operations.
func kinds() []int { return []int{api.OpGet, api.OpPut, api.OpDel, api.OpCas, api.OpMark} }

func TestKindsAndLimitsByTheirNumbers(t *testing.T) {
	for i, kind := range kinds() {
		if kind != i+1 {
			t.Errorf("kind %d is %d", i+1, kind)
		}
	}
	if api.MostKey != 64 || api.MostValue != 4096 || api.MostTTL != 1<<30 {
		t.Error(api.MostKey, api.MostValue, api.MostTTL)
	}
}

func TestCheckOfWhatMayBe(t *testing.T) {
	for _, o := range []api.Op{
		{Kind: 1, Key: "a"},
		{Kind: 1, Key: "\x00"},
		{Kind: 1, Key: key},
		{Kind: 2, Key: "a"},
		{Kind: 2, Key: "a", Value: "x"},
		{Kind: 2, Key: "a", TTL: 1},
		{Kind: 2, Key: key, Value: value, TTL: 1 << 30},
		{Kind: 2, Key: strings.Repeat("\xff", 64), Value: strings.Repeat("\x00", 4096)}, // bytes, not runes
		{Kind: 3, Key: "a"},
		{Kind: 3, Key: key},
		{Kind: 4, Key: "a", Version: 1},
		{Kind: 4, Key: "a", Value: "x", TTL: 7, Version: 300},
		{Kind: 4, Key: key, Value: value, TTL: 1 << 30, Version: most},
		{Kind: 5},
	} {
		if !Check(o) {
			t.Errorf("%.40v may not be", o)
		}
	}
}

func TestCheckOfWhatMayNotBe(t *testing.T) {
	for _, x := range []struct {
		name string
		o    api.Op
	}{
		{"nothing", api.Op{}},
		{"no kind", api.Op{Key: "a"}},
		{"kind 6", api.Op{Kind: 6}},
		{"kind 6 with a key", api.Op{Kind: 6, Key: "a"}},
		{"kind -1", api.Op{Kind: -1}},
		{"kind -1 with a key", api.Op{Kind: -1, Key: "a"}},
		{"kind 257", api.Op{Kind: 257, Key: "a"}},
		{"kind 2^32 and 1", api.Op{Kind: 1<<32 + 1, Key: "a"}},
		{"the greatest kind", api.Op{Kind: greatest, Key: "a"}},
		{"the smallest kind", api.Op{Kind: smallest, Key: "a"}},
		{"get without a key", api.Op{Kind: 1}},
		{"get with too long a key", api.Op{Kind: 1, Key: key + "k"}},
		{"get with a value", api.Op{Kind: 1, Key: "a", Value: "x"}},
		{"get with a TTL", api.Op{Kind: 1, Key: "a", TTL: 1}},
		{"get with a version", api.Op{Kind: 1, Key: "a", Version: 1}},
		{"put without a key", api.Op{Kind: 2, Value: "x"}},
		{"put with too long a key", api.Op{Kind: 2, Key: key + "k"}},
		{"put with a key of 64 runes that are more bytes", api.Op{Kind: 2, Key: strings.Repeat("\u00e9", 64)}},
		{"put with too long a value", api.Op{Kind: 2, Key: "a", Value: value + "v"}},
		{"put with a TTL too great", api.Op{Kind: 2, Key: "a", TTL: 1<<30 + 1}},
		{"put with the greatest TTL", api.Op{Kind: 2, Key: "a", TTL: most}},
		{"put with a version", api.Op{Kind: 2, Key: "a", Version: 1}},
		{"put with the greatest version", api.Op{Kind: 2, Key: "a", Version: most}},
		{"del without a key", api.Op{Kind: 3}},
		{"del with too long a key", api.Op{Kind: 3, Key: key + "k"}},
		{"del with a value", api.Op{Kind: 3, Key: "a", Value: "x"}},
		{"del with a TTL", api.Op{Kind: 3, Key: "a", TTL: 1}},
		{"del with a version", api.Op{Kind: 3, Key: "a", Version: 1}},
		{"cas without a key", api.Op{Kind: 4, Value: "x", Version: 1}},
		{"cas with too long a key", api.Op{Kind: 4, Key: key + "k", Version: 1}},
		{"cas with too long a value", api.Op{Kind: 4, Key: "a", Value: value + "v", Version: 1}},
		{"cas with a TTL too great", api.Op{Kind: 4, Key: "a", TTL: 1<<30 + 1, Version: 1}},
		{"cas with version 0", api.Op{Kind: 4, Key: "a", Value: "x"}},
		{"mark with a key", api.Op{Kind: 5, Key: "a"}},
		{"mark with a value", api.Op{Kind: 5, Value: "x"}},
		{"mark with a TTL", api.Op{Kind: 5, TTL: 1}},
		{"mark with a version", api.Op{Kind: 5, Version: 1}},
	} {
		if Check(x.o) {
			t.Errorf("%s may be", x.name)
		}
	}
}

// example is an operation and its bytes.
type example struct {
	o api.Op
	s string
}

func examples() []example {
	return []example{
		{api.Op{Kind: 1, Key: "a"}, "\x01\x01a"},
		{api.Op{Kind: 1, Key: key}, "\x01\x40" + key},
		{api.Op{Kind: 2, Key: "a"}, "\x02\x01a\x00\x00"},
		{api.Op{Kind: 2, Key: "ab", Value: "xyz", TTL: 300}, "\x02\x02ab\x03xyz\xac\x02"},
		{api.Op{Kind: 2, Key: "\xff\x00", Value: "\x00"}, "\x02\x02\xff\x00\x01\x00\x00"},
		{api.Op{Kind: 2, Key: key, Value: value, TTL: 1 << 30}, "\x02\x40" + key + "\x80\x20" + value + "\x80\x80\x80\x80\x04"},
		{api.Op{Kind: 3, Key: "abc"}, "\x03\x03abc"},
		{api.Op{Kind: 4, Key: "a", Version: 1}, "\x04\x01a\x00\x00\x01"},
		{api.Op{Kind: 4, Key: "ab", Value: "xyz", TTL: 300, Version: 128}, "\x04\x02ab\x03xyz\xac\x02\x80\x01"},
		{api.Op{Kind: 4, Key: "a", Value: "x", TTL: 7, Version: most}, "\x04\x01a\x01x\x07\xff\xff\xff\xff\xff\xff\xff\xff\xff\x01"},
		{api.Op{Kind: 5}, "\x05"},
	}
}

func TestPutTellsItsBytes(t *testing.T) {
	for _, x := range examples() {
		if got := Put(x.o); got != x.s {
			t.Errorf("Put(%.40v) is %.40q, not %.40q", x.o, got, x.s)
		}
	}
}

func TestPutRecordTellsItsBytes(t *testing.T) {
	for _, x := range []struct {
		x api.Record
		s string
	}{
		{api.Record{Op: api.Op{Kind: 5}}, "\x00\x00\x00\x00\x05"},
		{api.Record{Seq: 1, Now: 2, Session: 3, Num: 4, Op: api.Op{Kind: 1, Key: "a"}}, "\x01\x02\x03\x04\x01\x01a"},
		{api.Record{Seq: 300, Now: 128, Session: 10, Num: 64, Op: api.Op{Kind: 4, Key: "a", Value: "x", TTL: 7, Version: 9}}, "\xac\x02\x80\x01\x0a\x40\x04\x01a\x01x\x07\x09"},
		{api.Record{Seq: most, Now: 1, Session: most, Num: 0, Op: api.Op{Kind: 5}}, "\xff\xff\xff\xff\xff\xff\xff\xff\xff\x01\x01\xff\xff\xff\xff\xff\xff\xff\xff\xff\x01\x00\x05"},
	} {
		if got := PutRecord(x.x); got != x.s {
			t.Errorf("PutRecord(%v) is %q, not %q", x.x, got, x.s)
		}
		if got, e := Get(x.s); got != x.x || e != api.OK {
			t.Errorf("Get(%q) is %v, %d, not %v", x.s, got, e, x.x)
		}
	}
}

// replies are replies and their bytes.
func replies() map[string]api.Reply {
	return map[string]api.Reply{
		"\x00\x00\x00":         {},
		"\x00\x03xyz\xac\x02":  {Value: "xyz", Version: 300},
		"\x02\x00\x00":         {E: api.ErrNone},
		"\x79\x00\x09":         {E: 121, Version: 9},
		"\xe6\x01\x01\x00\x05": {E: 230, Value: "\x00", Version: 5},
		"\xff\xff\x03\x80\x20" + value + "\xff\xff\xff\xff\xff\xff\xff\xff\xff\x01": {E: 1<<16 - 1, Value: value, Version: most},
	}
}

func TestPutReplyTellsItsBytes(t *testing.T) {
	for s, x := range replies() {
		if got := PutReply(x); got != s {
			t.Errorf("PutReply(%.40v) is %.40q, not %.40q", x, got, s)
		}
	}
}

func TestWhatMayNotBeEndsTooWhenItIsWritten(t *testing.T) {
	long := strings.Repeat("x", 1<<17)
	for _, kind := range []int{smallest, -1, 0, 1, 2, 3, 4, 5, 6, greatest} {
		for _, o := range []api.Op{{Kind: kind}, {Kind: kind, Key: long, Value: long, TTL: most, Version: most}} {
			before := o
			Put(o)
			PutRecord(api.Record{Seq: most, Op: o})
			if Check(o) != (o == api.Op{Kind: api.OpMark}) || o != before {
				t.Errorf("kind %d: whether it may be: %v", kind, Check(o))
			}
		}
	}
	for _, e := range []api.Errno{smallest, -1, 1 << 16, greatest} {
		PutReply(api.Reply{E: e, Value: long, Version: most})
	}
}

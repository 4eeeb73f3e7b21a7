package table

import (
	"strconv"
	"strings"
	"testing"

	"hawthorn/api"
	"hawthorn/wire"
)

const most = 1<<64 - 1

// nine is nine bytes of a number, none of which is the last one.
const nine = "\xff\xff\xff\xff\xff\xff\xff\xff\xff"

// longKey and longValue are the longest that bytes may tell of.
var (
	longKey   = strings.Repeat("k", 64)
	longValue = strings.Repeat("v", 4096)
)

// imported is what comes back of a table.
func imported(t *testing.T, x *Table) *Table {
	t.Helper()
	same, e := Import(x.Export())
	if e != api.OK || same == nil || same.Export() != x.Export() {
		t.Fatalf("another one comes back: %v, %d", same, e)
	}
	return same
}

// example is entries, in any order, and their bytes.
type example struct {
	l []api.Entry
	s string
}

func examples() []example {
	return []example{
		{nil, "\x00"},
		{[]api.Entry{{}}, "\x01\x00\x00\x00\x00"}, // a key may have no bytes here
		{[]api.Entry{{Key: "a"}}, "\x01\x01a\x00\x00\x00"},
		{[]api.Entry{{Key: "ab", Value: "xyz", Version: 300, End: 7}}, "\x01\x02ab\x03xyz\xac\x02\x07"},
		{[]api.Entry{{Key: "b", Value: "y", Version: 1, End: 128}, {Key: "a", Value: "x", Version: 2}}, "\x02\x01a\x01x\x02\x00\x01b\x01y\x01\x80\x01"},
		{[]api.Entry{{Key: "b"}, {Key: "ab"}, {Key: "a"}, {}}, "\x04\x00\x00\x00\x00\x01a\x00\x00\x00\x02ab\x00\x00\x00\x01b\x00\x00\x00"},
		{[]api.Entry{{Key: "\xff\x00", Value: "\x00"}, {Key: "\x7f"}}, "\x02\x01\x7f\x00\x00\x00\x02\xff\x00\x01\x00\x00\x00"},
		{[]api.Entry{{Key: "a", Version: most, End: most}}, "\x01\x01a\x00" + nine + "\x01" + nine + "\x01"},
		{[]api.Entry{{Key: longKey, Value: longValue, Version: 1}}, "\x01\x40" + longKey + "\x80\x20" + longValue + "\x01\x00"},
	}
}

func TestExportTellsItsBytes(t *testing.T) {
	for _, x := range examples() {
		if got := made(x.l...).Export(); got != x.s {
			t.Errorf("%.40v: the bytes are %.40q, not %.40q", x.l, got, x.s)
		}
	}
}

func TestImportIsWhatItWas(t *testing.T) {
	for _, x := range examples() {
		got, e := Import(x.s)
		if e != api.OK {
			t.Fatalf("%.40q: %d", x.s, e)
		}
		want := made(x.l...)
		var l []api.Entry
		for _, key := range want.Keys() {
			y, _ := want.Get(key)
			l = append(l, y)
		}
		wantEntries(t, strconv.Quote(x.s[:min(len(x.s), 40)]), got, l...)
	}
}

// What hangs on the way by which entries came there is not to be seen.
func TestExportOfOtherWays(t *testing.T) {
	a, b := api.Entry{Key: "a", Value: "x", Version: 5, End: 9}, api.Entry{Key: "b", Value: "y", Version: 4}
	got := made(b, api.Entry{Key: "c"}, api.Entry{Key: "a", Value: "older", Version: 1}, a)
	got.Drop("c")
	got.Drop("b")
	got.Put(b)
	if got.Export() != made(a, b).Export() {
		t.Errorf("%q is not %q", got.Export(), made(a, b).Export())
	}
}

func TestImportGoesOnAsItWas(t *testing.T) {
	a, b := api.Entry{Key: "a", Value: "x", Version: 1, End: 4}, api.Entry{Key: "b", Value: "yy", Version: 2, End: 3}
	got := made(a, b)
	before := got.Export()
	same := imported(t, got)
	got.Put(api.Entry{Key: "a", Value: "new"})
	got.Drop("b")
	if same.Export() != before {
		t.Error("what is done to the one is done to the other")
	}
	same.Put(api.Entry{Key: "a", Value: "new"})
	if !same.Drop("b") || same.Export() != got.Export() || same.Bytes() != got.Bytes() {
		t.Error("it goes on otherwise")
	}
	empty := imported(t, New())
	empty.Put(a)
	wantEntries(t, "one without entries", empty, a)
}

// numbered is the bytes of so many entries of a length of key and value, by their keys, behind how many there are.
func numbered(count, key, value int) string {
	var b strings.Builder
	b.WriteString(wire.Num(uint64(count)))
	for i := range count {
		k := strconv.Itoa(1000000 + i)
		b.WriteString(wire.Text(k + strings.Repeat("k", key-len(k))))
		b.WriteString(wire.Text(strings.Repeat("v", value)) + wire.Num(most) + wire.Num(most))
	}
	return b.String()
}

func TestImportOfTheFullest(t *testing.T) {
	s := numbered(1000, 64, 4096)
	got, e := Import(s)
	if e != api.OK || got.Len() != 1000 || got.Bytes() != 1000*(64+4096) || got.Export() != s {
		t.Fatalf("all that may be: %d", e)
	}
	if got, e := Import(numbered(1001, 7, 0)); got != nil || e != api.ErrOver {
		t.Errorf("one more: %v, %d", got, e)
	}
}

func TestLimitsByTheirNumbers(t *testing.T) {
	if api.MostEntries != 1000 || api.MostKey != 64 || api.MostValue != 4096 {
		t.Error(api.MostEntries, api.MostKey, api.MostValue)
	}
}

// wrong is bytes and what is told of them.
type wrong struct {
	name, s string
	want    api.Errno
}

func wrongBytes() []wrong {
	const a, b = "\x01a\x01x\x01\x00", "\x01b\x01y\x02\x07"
	overKey, overValue := "\x41"+longKey+"k", "\x81\x20"+longValue+"v"
	return []wrong{
		{"nothing", "", api.ErrShort},
		{"half of how many", "\x81", api.ErrShort},
		{"how many, not in its shortest form", "\x81\x00" + a, api.ErrForm},
		{"how many, of 65 bits", nine + "\x02", api.ErrForm},
		{"the most, which lack", "\xe8\x07", api.ErrShort},
		{"one more than the most", "\xe9\x07", api.ErrOver}, // ahead of the bytes' end
		{"one more than the most, not in its shortest form", "\xe9\x87\x00", api.ErrForm},
		{"much more", nine + "\x01" + a, api.ErrOver},
		{"2^32 and one", "\x81\x80\x80\x80\x10" + a, api.ErrOver},
		{"none, and more", "\x00" + a, api.ErrExtra},
		{"one, which lacks", "\x01", api.ErrShort},
		{"one, and more", "\x01" + a + b, api.ErrExtra},
		{"two, of which one lacks", "\x02" + a, api.ErrShort},

		{"too long a key", "\x01" + overKey + "\x00\x00\x00", api.ErrOver},
		{"too long a key that lacks", "\x01\x41", api.ErrOver},
		{"the longest key, which lacks", "\x01\x40", api.ErrShort},
		{"much too long a key", "\x01" + nine + "\x01", api.ErrOver},
		{"a key's length not in its shortest form", "\x01\x81\x00a\x00\x00\x00", api.ErrForm},
		{"too long a value", "\x01\x01a" + overValue + "\x00\x00", api.ErrOver},
		{"too long a value that lacks", "\x01\x01a\x81\x20", api.ErrOver},
		{"the longest value, which lacks", "\x01\x01a\x80\x20", api.ErrShort},
		{"a value's length not in its shortest form", "\x01\x01a\x81\x00x\x00\x00", api.ErrForm},
		{"a version of 65 bits", "\x01\x01a\x01x" + nine + "\x02\x00", api.ErrForm},
		{"a version not in its shortest form", "\x01\x01a\x01x\x81\x00\x00", api.ErrForm},
		{"an end of 65 bits", "\x01\x01a\x01x\x01" + nine + "\x02", api.ErrForm},
		{"an end not in its shortest form", "\x01\x01a\x01x\x01\x80\x00", api.ErrForm},
		{"no end", "\x01\x01a\x01x\x01", api.ErrShort},

		{"a key twice", "\x02" + a + a, api.ErrForm},
		{"a key twice, with another value", "\x02" + a + "\x01a\x00\x09\x09", api.ErrForm},
		{"keys that fall", "\x02" + b + a, api.ErrForm},
		{"a key behind a longer one that begins with it", "\x02\x02aa\x00\x00\x00" + a, api.ErrForm},
		{"a key of no bytes behind another one", "\x02" + a + "\x00\x00\x00\x00", api.ErrForm},
		{"a key of no bytes twice", "\x02\x00\x00\x00\x00\x00\x00\x00\x00", api.ErrForm},
		{"the third falls below the second", "\x03" + a + "\x01c\x00\x00\x00" + b, api.ErrForm},
		{"the third is the first", "\x03" + a + b + a, api.ErrForm},
		{"bytes above 127 ahead of those below", "\x02\x01\x80\x00\x00\x00\x01\x7f\x00\x00\x00", api.ErrForm},
		{"keys that fall, and more", "\x02" + b + a + "\x00", api.ErrForm},
		{"keys that fall, ahead of what lacks", "\x03" + b + a, api.ErrForm}, // asked behind each entry, not behind all
		{"keys that fall, ahead of too long a key", "\x03" + b + a + "\x41", api.ErrForm},
		{"a key that falls, its value lacks", "\x02" + b + "\x01a", api.ErrShort}, // and not ahead of its end
		{"a key that falls, its version lacks", "\x02" + b + "\x01a\x01x", api.ErrShort},
		{"a key that falls, its end lacks", "\x02" + b + "\x01a\x01x\x01", api.ErrShort},
		{"a key that falls, with too long a value", "\x02" + b + "\x01a\x81\x20", api.ErrOver},
	}
}

func TestImportTellsWhatCantBe(t *testing.T) {
	for _, x := range wrongBytes() {
		if got, e := Import(x.s); got != nil || e != x.want {
			t.Errorf("%s: %v, %d, not %d", x.name, got, e, x.want)
		}
	}
}

func TestImportOfBytesThatEnd(t *testing.T) {
	for _, x := range examples() {
		for n := range min(len(x.s), 300) {
			if got, e := Import(x.s[:n]); got != nil || e != api.ErrShort {
				t.Errorf("%d bytes of %.40q: %v, %d", n, x.s, got, e)
			}
		}
	}
}

// Whatever bytes are taken for a table, its own bytes are these.
func TestImportOfSpoiltBytes(t *testing.T) {
	all := made(api.Entry{Key: "ab", Value: "xy", Version: 300, End: 7}, api.Entry{Key: "b", Version: 1}, api.Entry{Key: "ba", Value: "z", Version: 2, End: 1 << 40}).Export()
	for at := range all {
		for b := range 256 {
			s := all[:at] + string([]byte{byte(b)}) + all[at+1:]
			x, e := Import(s)
			if (x != nil) != (e == api.OK) || e == api.OK && x.Export() != s {
				t.Fatalf("%q is read as %v, %d", s, x, e)
			}
		}
	}
}

func TestTakeLeavesWhatIsBehind(t *testing.T) {
	a, b := api.Entry{Key: "a", Value: "x", Version: 1, End: 4}, api.Entry{Key: "b", Value: "yy", Version: 2, End: 3}
	e := wire.Read("x"+made(a, b).Export()+New().Export()+made(a).Export()+"yz", func(r *wire.Reader) {
		r.Bytes(1)
		wantEntries(t, "the first one", Take(r), a, b)
		wantEntries(t, "the second one", Take(r))
		wantEntries(t, "the third one", Take(r), a) // a row of its own: keys of another one don't count
		if r.Left() != 2 || r.Bytes(2) != "yz" {
			t.Error("left:", r.Left())
		}
	})
	if e != api.OK {
		t.Error(e)
	}
}

func TestTakeEndsTheReading(t *testing.T) {
	for _, x := range wrongBytes() {
		if x.want == api.ErrExtra {
			continue // that is told by who reads, not by Take
		}
		e := wire.Read(x.s, func(r *wire.Reader) {
			Take(r)
			t.Errorf("%s: it goes on", x.name)
		})
		if e != x.want {
			t.Errorf("%s: %d, not %d", x.name, e, x.want)
		}
	}
}

func TestTakeWhereNothingIsRead(t *testing.T) {
	var over *wire.Reader
	wire.Read(made(api.Entry{Key: "a"}).Export(), func(r *wire.Reader) { over = r })
	for _, r := range []*wire.Reader{nil, {}, over} {
		if x := Take(r); x != nil {
			t.Errorf("%v", x)
		}
	}
}

package tiny

import (
	"strconv"
	"strings"
	"testing"

	"hawthorn/api"
	"hawthorn/wire"
)

// wantSame is what comes back of one's bytes.
func wantSame(t *testing.T, a *Tiny) *Tiny {
	t.Helper()
	same, e := Import(a.Export())
	if e != api.OK || same.Export() != a.Export() {
		t.Fatalf("another one comes back: %v, %d", same, e)
	}
	return same
}

func TestExportHasTheNumberTheSketchAndTheRings(t *testing.T) {
	none := strings.Repeat("\x00", 1+5*24) // no additions, nothing noted
	for _, x := range []struct{ name, state, want string }{
		{"nothing", "3 | | | |", "\x03" + "\x18" + wire.Num(seed) + none + "\x03\x04\x00\x00\x00"},
		{"all lists", "3 | a | bc | d |", "\x03" + "\x18" + wire.Num(seed) + none + "\x03\x04\x01\x01a\x01\x02bc\x01\x01d"},
		{"more keys in one", "3 | | b a | |", "\x03" + "\x18" + wire.Num(seed) + none + "\x03\x04\x00\x02\x01b\x01a\x00"},
	} {
		if got := laid(t, x.state).Export(); got != x.want {
			t.Errorf("%s: the bytes are %x, not %x", x.name, got, x.want)
		}
	}
	a := fresh(t, 1000, 7)
	if got, want := a.Export(), "\xe8\x07"+"\x80\x20\x07"+strings.Repeat("\x00", 1+5*4096)+"\x03\xe9\x07\x00\x00\x00"; got != want {
		t.Errorf("of 1000: other bytes, %d of them", len(got))
	}
}

func TestImportGoesOnAsItWas(t *testing.T) {
	for _, state := range []string{"1 | | | |", "5 | k1 | k2 k4 | k0 | k1 k1 k2", "16 | a k2 | b c d | k1 e | a b c a", "2 | | k1 k2 | |"} {
		a := laid(t, state)
		before := a.Export()
		same := wantSame(t, a)
		insertRow(a)
		if same.Export() != before {
			t.Error("what is done to the one is done to the other")
		}
		insertRow(same)
		if a.Export() != same.Export() {
			t.Errorf("%s: it goes on otherwise", state)
		}
	}
}

// insertRow inserts a row of keys, some of them more often.
func insertRow(a *Tiny) {
	for i := range 20 {
		a.Insert("k" + strconv.Itoa(i*i%7))
	}
}

func TestImportOfTheFullest(t *testing.T) {
	const c = api.MostEntries
	key := func(i int) string {
		n := strconv.Itoa(i)
		return n + strings.Repeat("k", api.MostKey-len(n))
	}
	parts := Parts(c)
	for _, sizes := range [][3]int{
		{parts.Window, c - parts.Window - parts.Protected, parts.Protected}, {parts.Window, c - parts.Window, 0}, {0, c - parts.Protected, parts.Protected},
	} {
		bytes := wire.Num(c) + sketchOf(t, api.MostWide).Export() + wire.Num(3) + wire.Num(c+1)
		next := 0
		for _, size := range sizes {
			bytes += wire.Num(uint64(size))
			for range size {
				bytes += wire.Text(key(next))
				next++
			}
		}
		a, e := Import(bytes)
		if e != api.OK || a.Export() != bytes || a.Len() != c {
			t.Fatalf("%v: %d", sizes, e)
		}
		for i := range 200 {
			a.Insert("new" + strconv.Itoa(i))
			if a.Len() != c {
				t.Fatalf("%v: %d are kept", sizes, a.Len())
			}
		}
		wantSame(t, a)
	}
}

func TestImportTellsWhatCantBe(t *testing.T) {
	sk := func(wide int) string { return sketchOf(t, wide, "a", "a").Export() }
	const rings = "\x03\x04\x00\x01\x01a\x00"
	spoilt := func(at int, b byte) string { // a byte of a sketch: three numbers, four rows of 24 counters, the door
		s := []byte(sk(24))
		s[at] = b
		return string(s)
	}
	for _, x := range []struct {
		name, s string
		want    api.Errno
	}{
		{"three are kept at most", "\x03" + sk(24) + rings, api.OK},
		{"nothing", "", api.ErrShort},
		{"c is 0", "\x00", api.ErrForm}, // ahead of the bytes' end
		{"c is 0, and all the rest", "\x00" + sk(8) + "\x03\x01\x00\x00\x00", api.ErrForm},
		{"c is 0, and a width that can't be", "\x00\x81\x20", api.ErrForm},
		{"c not in its shortest form", "\x81\x00", api.ErrForm},
		{"c of 65 bits", "\x80\x80\x80\x80\x80\x80\x80\x80\x80\x02", api.ErrForm},
		{"half of c", "\x83", api.ErrShort},
		{"c too great", "\xe9\x07", api.ErrOver}, // ahead of the bytes' end
		{"c too great, and all the rest", "\xe9\x07" + sk(4096) + "\x03\xea\x07\x00\x00\x00", api.ErrOver},
		{"c much too great", "\xff\xff\xff\xff\xff\xff\xff\xff\xff\x01", api.ErrOver},
		{"just c", "\x03", api.ErrShort},
		{"no width", "\x03\x00", api.ErrForm},
		{"a width that can't be", "\x03\x81\x20", api.ErrOver},
		{"as many additions as none has", "\x03" + spoilt(2, 240) + rings, api.ErrForm}, // a number of two bytes begins, and is not in its shortest form
		{"a counter too great", "\x03" + spoilt(3, 16) + rings, api.ErrForm},
		{"the greatest counter", "\x03" + spoilt(3, 15) + rings, api.OK},
		{"a bit that is none", "\x03" + spoilt(3+5*24-1, 2) + rings, api.ErrForm},
		{"a lesser width", "\x03" + sk(23) + rings, api.ErrForm},
		{"a greater width", "\x03" + sk(25) + rings, api.ErrForm},
		{"another width, and the end", "\x03" + sk(25), api.ErrForm},
		{"another width, cut", "\x03" + sk(25)[:127], api.ErrShort},
		{"another width ahead of too many lists", "\x03" + sk(25) + "\x09", api.ErrForm},
		{"no rings", "\x03" + sk(24), api.ErrShort},
		{"rings without a list", "\x03" + sk(24) + "\x00\x04", api.ErrForm},
		{"too many lists", "\x03" + sk(24) + "\x09", api.ErrOver},
		{"too many places", "\x03" + sk(24) + "\x03\x81\x20", api.ErrOver},
		{"more keys than places", "\x03" + sk(24) + "\x03\x04\x05", api.ErrOver},
		{"too long a key", "\x03" + sk(24) + "\x03\x04\x01\x41", api.ErrOver},
		{"a key twice", "\x03" + sk(24) + "\x03\x04\x01\x01a\x01\x01a", api.ErrForm},
		{"two lists", "\x03" + sk(24) + "\x02\x04\x00\x00", api.ErrForm},
		{"two lists, cut", "\x03" + sk(24) + "\x02\x04\x00", api.ErrShort}, // it is asked behind all
		{"two lists, a byte too many", "\x03" + sk(24) + "\x02\x04\x00\x00\x00", api.ErrForm},
		{"four lists", "\x03" + sk(24) + "\x04\x04\x00\x00\x00\x00", api.ErrForm},
		{"four lists, cut", "\x03" + sk(24) + "\x04\x04\x00\x00\x00", api.ErrShort},
		{"one list", "\x03" + sk(24) + "\x01\x04\x00", api.ErrForm},
		{"eight lists", "\x03" + sk(24) + "\x08\x04\x00\x00\x00\x00\x00\x00\x00\x00", api.ErrForm},
		{"a place too few", "\x03" + sk(24) + "\x03\x03\x00\x00\x00", api.ErrForm},
		{"a place too few, some taken", "\x03" + sk(24) + "\x03\x03\x01\x01a\x01\x01b\x00", api.ErrForm},
		{"a place too many", "\x03" + sk(24) + "\x03\x05\x00\x00\x00", api.ErrForm},
		{"a place too many, one taken", "\x03" + sk(24) + "\x03\x05\x01\x01a\x00\x00", api.ErrForm},
		{"a place too many, cut", "\x03" + sk(24) + "\x03\x05\x00\x00", api.ErrShort},
		{"a place too many, and too long a key behind", "\x03" + sk(24) + "\x03\x05\x00\x00\x01\x41", api.ErrOver},
		{"no places", "\x03" + sk(24) + "\x03\x00\x00\x00\x00", api.ErrForm},
		{"a byte too many", "\x03" + sk(24) + rings + "\x00", api.ErrExtra},
		{"a place too many, a byte too many", "\x03" + sk(24) + "\x03\x05\x00\x00\x00\x00", api.ErrForm},
	} {
		a, e := Import(x.s)
		if e != x.want || (a != nil) != (e == api.OK) {
			t.Errorf("%s: %v, %d, not %d", x.name, a, e, x.want)
		}
	}
}

func TestImportTellsAdditionsOverTheSample(t *testing.T) {
	for _, x := range []struct {
		additions uint64
		want      api.Errno
	}{{0, api.OK}, {239, api.OK}, {240, api.ErrOver}, {most, api.ErrOver}} {
		s := "\x03\x18\x07" + wire.Num(x.additions) + strings.Repeat("\x00", 5*24) + "\x03\x04\x00\x00\x00"
		if a, e := Import(s); e != x.want || (a != nil) != (e == api.OK) {
			t.Errorf("%d additions: %v, %d, not %d", x.additions, a, e, x.want)
		}
	}
}

func TestImportHoldsTheWidthAgainstHowManyAreKept(t *testing.T) {
	for _, x := range []struct {
		c, wide int
		want    api.Errno
	}{
		{1, 8, api.OK}, {1, 7, api.ErrForm}, {1, 9, api.ErrForm}, {1, 1, api.ErrForm}, {2, 8, api.ErrForm}, {2, 16, api.OK},
		{511, 4088, api.OK}, {511, 4096, api.ErrForm}, {512, 4096, api.OK}, {512, 4095, api.ErrForm}, {513, 4096, api.OK}, {1000, 4096, api.OK}, {1000, 4095, api.ErrForm},
	} {
		s := wire.Num(uint64(x.c)) + sketchOf(t, x.wide).Export() + ringsOf(t, x.c+1, "", "", "").Export()
		if a, e := Import(s); e != x.want || (a != nil) != (e == api.OK) {
			t.Errorf("c %d, width %d: %d, not %d", x.c, x.wide, e, x.want)
		}
	}
}

func TestImportTellsListsThatHaveTooMany(t *testing.T) {
	for _, x := range []struct {
		name, state string
		want        api.Errno
	}{
		{"all that may be", "5 | a | b | c d e |", api.OK},
		{"the window has as many as may be", "16 | a b | | |", api.OK},
		{"the window has more", "16 | a b c | | |", api.ErrForm},
		{"the window has more, c is 1", "1 | a b | | |", api.ErrForm},
		{"the window has more, c is 8", "8 | a b | | |", api.ErrForm},
		{"as many are safe as may be", "5 | | | a b c |", api.OK},
		{"more are safe", "5 | | | a b c d |", api.ErrForm},
		{"more are safe than none", "2 | | | a |", api.ErrForm},
		{"more are safe, c is 1", "1 | | | a |", api.ErrForm},
		{"c are kept", "3 | a | b c | |", api.OK},
		{"more than c are kept", "3 | a | b c d | |", api.ErrForm},
		{"more than c are kept, some are safe", "3 | a | b c | d |", api.ErrForm},
		{"c on trial", "3 | | a b c | |", api.OK},
		{"more than c on trial", "3 | | a b c d | |", api.ErrForm},
	} {
		bytes := stateBytes(t, x.state)
		a, e := Import(bytes)
		if e != x.want || (a != nil) != (e == api.OK) {
			t.Errorf("%s: %v, %d, not %d", x.name, a, e, x.want)
		}
		if e == api.OK {
			wantState(t, x.name, a, x.state)
		}
		extra := x.want
		if extra == api.OK {
			extra = api.ErrExtra
		}
		if a, e := Import(bytes + "\x00"); a != nil || e != extra {
			t.Errorf("%s, and a byte too many: %v, %d, not %d", x.name, a, e, extra)
		}
	}
}

func TestImportOfBytesThatEnd(t *testing.T) {
	all := laid(t, "150 | a bc | "+strings.Repeat("d", 64)+" | e f | a bc a").Export()
	for n := range all {
		if a, e := Import(all[:n]); a != nil || e != api.ErrShort {
			t.Errorf("%d bytes of %d: %v, %d", n, len(all), a, e)
		}
	}
}

func TestTakeLeavesWhatIsBehind(t *testing.T) {
	const one, two = "3 | a | b | c | a b a", "2 | | a | | x"
	e := wire.Read("x"+stateBytes(t, one)+stateBytes(t, two)+"yz", func(r *wire.Reader) {
		r.Bytes(1)
		wantState(t, "the first one", Take(r), one)
		wantState(t, "the second one", Take(r), two)
		if r.Left() != 2 || r.Bytes(2) != "yz" {
			t.Error("left:", r.Left())
		}
	})
	if e != api.OK {
		t.Error(e)
	}
}

func TestTakeEndsTheReading(t *testing.T) {
	sk := sketchOf(t, 8).Export()
	for _, x := range []struct {
		s    string
		want api.Errno
	}{
		{"", api.ErrShort},
		{"\x00", api.ErrForm},
		{"\xe9\x07", api.ErrOver},
		{"\x01\x81\x20", api.ErrOver},
		{"\x02" + sk, api.ErrForm},
		{"\x01" + sk + "\x09", api.ErrOver},
		{"\x01" + sk + "\x02\x02\x00\x00", api.ErrForm},
		{"\x01" + sk + "\x03\x02\x02\x01a\x01b\x00\x00", api.ErrForm},
		{"\x01" + sk + "\x03\x02\x00\x00", api.ErrShort},
	} {
		e := wire.Read(x.s, func(r *wire.Reader) {
			Take(r)
			t.Errorf("%x: it goes on", x.s)
		})
		if e != x.want {
			t.Errorf("%x: %d, not %d", x.s, e, x.want)
		}
	}
}

func TestTakeWhereNothingIsRead(t *testing.T) {
	var over *wire.Reader
	wire.Read(stateBytes(t, "3 | a | | |"), func(r *wire.Reader) { over = r })
	for _, r := range []*wire.Reader{nil, {}, over} {
		if a := Take(r); a != nil {
			t.Errorf("%v", a)
		}
	}
}

func TestNilHasNothing(t *testing.T) {
	for _, a := range []*Tiny{nil, {}} {
		a.Miss("a")
		wantGone(t, "nil", a.Insert("a"), "-")
		wantGone(t, "nil", a.Insert(""), "-")
		gone, ok := a.Evict()
		if a.Has("a") || a.Touch("a") || a.Remove("a") || gone != "" || ok {
			t.Errorf("%v: a key is kept; %q, %v goes", a, gone, ok)
		}
		if a.Len() != 0 || a.Seen("a") != 0 || a.Export() != "" {
			t.Errorf("%v: %d keys, seen %d times, bytes %x", a, a.Len(), a.Seen("a"), a.Export())
		}
		for _, keys := range a.Lists() {
			if len(keys) != 0 {
				t.Errorf("%v: keys %q", a, keys)
			}
		}
	}
}

func TestTwoShareNothing(t *testing.T) {
	const state = "3 | a | b | c | a b"
	bytes := stateBytes(t, state)
	one, _ := Import(bytes)
	other, _ := Import(bytes)
	one.Insert("x")
	one.Touch("c")
	one.Remove("b")
	one.Miss("a")
	one.Evict()
	wantState(t, "the other", other, state)
}

// Whatever bytes are taken for one, it keeps no more than it may, and comes back from its own bytes.
func TestImportOfSpoiltBytes(t *testing.T) {
	bytes := stateBytes(t, "5 | a | b c | d e | a b c d e")
	taken := 0
	for at := range bytes {
		for _, b := range []byte{0, 1, 2, 3, 5, 6, 15, 'a', 'z', 0x80, 0xff} {
			a, e := Import(bytes[:at] + string([]byte{b}) + bytes[at+1:])
			if (a != nil) != (e == api.OK) {
				t.Fatalf("byte %d is %d: %v, %d", at, b, a, e)
			}
			if a == nil {
				continue
			}
			taken++
			wantSame(t, a)
			insertRow(a)
			if a.Len() > 5 {
				t.Fatalf("byte %d is %d: %d are kept", at, b, a.Len())
			}
			wantSame(t, a)
		}
	}
	if taken < 1000 {
		t.Errorf("%d of them are taken", taken)
	}
}

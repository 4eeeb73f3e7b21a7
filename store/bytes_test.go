package store

import (
	"math"
	"strconv"
	"strings"
	"testing"

	"hawthorn/api"
	"hawthorn/policy"
	"hawthorn/table"
	"hawthorn/wire"
)

const (
	nine     = "\xff\xff\xff\xff\xff\xff\xff\xff\xff" // nine bytes of a number, none of which is the last one
	greatest = nine + "\x01"                          // 2^64 - 1
)

// parts is a cache's bytes in parts, each of which can be another one.
type parts struct{ config, places, tally, table, policy, sessions string }

func (p parts) bytes() string {
	return p.config + p.places + p.tally + p.table + p.policy + p.sessions
}

// ofArc is the parts of the cache that arcCache makes.
func ofArc() parts {
	return parts{
		config:   "\x01\x02\x0a\x07",
		places:   "\x05\x04\x02",
		tally:    "\x02\x01",
		table:    "\x02" + "\x01a\x01x\x01\x08" + "\x01b\x02yz\x02\x00",
		policy:   "\x01\x02\x00" + "\x04\x05" + "\x01\x01b" + "\x01\x01a" + "\x00\x00",
		sessions: "\x02" + "\x09\x05\x00\x01x\x01" + "\xac\x02\x02\x02\x00\x00",
	}
}

// ofTiny is the parts of a cache of the other kind, of which the sketch saw nothing.
func ofTiny() parts {
	p := ofArc()
	p.config = "\x02\x02\x0a\x07"
	p.policy = "\x02\x02" + "\x10\x07" + strings.Repeat("\x00", 1+5*16) + "\x03\x03" + "\x01\x01b" + "\x01\x01a" + "\x00"
	return p
}

func arcCache(t *testing.T) *Store {
	s := fresh(t, api.PolicyArc, 2, 10)
	next(t, s, 3, 300, 1, put("a", "x", 5))
	next(t, s, 2, 9, 4, put("b", "yz", 0))
	next(t, s, 4, 9, 5, get("a"))
	next(t, s, 0, 300, 2, get("c"))
	next(t, s, 0, 7, 7, mark)
	return s
}

func TestExportTellsItsBytes(t *testing.T) {
	if got, want := arcCache(t).Export(), ofArc().bytes(); got != want {
		t.Errorf("the bytes are %x, not %x", got, want)
	}
	for _, x := range []struct {
		c    api.Config
		want string
	}{
		{api.Config{Policy: 1, Entries: 2, Bytes: 10, Seed: 7}, "\x01\x02\x0a\x07" + "\x00\x00\x00\x00\x00" + "\x00" + "\x01\x02\x00\x04\x05\x00\x00\x00\x00" + "\x00"},
		{api.Config{Policy: 1, Entries: 1000, Bytes: 1 << 20, Seed: math.MaxUint64}, "\x01\xe8\x07\x80\x80\x40" + greatest + "\x00\x00\x00\x00\x00" + "\x00" + "\x01\xe8\x07\x00\x04\xd1\x0f\x00\x00\x00\x00" + "\x00"},
		{api.Config{Policy: 2, Entries: 1, Bytes: 1, Seed: 300}, "\x02\x01\x01\xac\x02" + "\x00\x00\x00\x00\x00" + "\x00" + "\x02\x01\x08\xac\x02\x00" + strings.Repeat("\x00", 5*8) + "\x03\x02\x00\x00\x00" + "\x00"},
	} {
		s, _ := New(x.c)
		if s.Export() != x.want {
			t.Errorf("%v: the bytes are %x, not %x", x.c, s.Export(), x.want)
		}
	}
}

func TestImportIsWhatItWas(t *testing.T) {
	for _, x := range []struct {
		kind int
		p    parts
	}{{api.PolicyArc, ofArc()}, {api.PolicyTiny, ofTiny()}} {
		s, e := Import(x.p.bytes())
		if e != api.OK || s.Export() != x.p.bytes() {
			t.Fatalf("kind %d: %v, %d", x.kind, s, e)
		}
		if s.Config() != (api.Config{Policy: x.kind, Entries: 2, Bytes: 10, Seed: 7}) || s.Seq() != 5 || s.Now() != 4 || s.Tally() != (api.Tally{Asked: 2, Hits: 1}) {
			t.Errorf("kind %d: %v, %d, %d, %v", x.kind, s.Config(), s.Seq(), s.Now(), s.Tally())
		}
		l := s.Entries()
		if len(l) != 2 || l[0] != (api.Entry{Key: "a", Value: "x", Version: 1, End: 8}) || l[1] != (api.Entry{Key: "b", Value: "yz", Version: 2}) {
			t.Errorf("kind %d: %v", x.kind, l)
		}
		for _, y := range []struct {
			session, num uint64
			want         api.Reply
		}{{9, 5, read("x", 1)}, {300, 2, fails(api.ErrNone)}} {
			if num, reply, ok := s.Told(y.session); num != y.num || reply != y.want || !ok {
				t.Errorf("kind %d: session %d: %d, %v, %v", x.kind, y.session, num, reply, ok)
			}
		}
		if _, _, ok := s.Told(7); ok { // it just had something noted
			t.Errorf("kind %d: session 7 is known", x.kind)
		}
	}
}

func TestImportGoesOnAsItWas(t *testing.T) {
	s := arcCache(t)
	same, e := Import(s.Export())
	if e != api.OK {
		t.Fatal(e)
	}
	for i, o := range []api.Op{get("b"), put("c", "z", 2), put("d", "12345", 0), get("a"), del("c"), get("b"), cas("d", "1", 0, 4)} {
		one, other := next(t, s, uint64(i+4), 9, uint64(i+6), o), next(t, same, uint64(i+4), 9, uint64(i+6), o)
		if one != other || s.Digest() != same.Digest() {
			t.Fatalf("%v: %v and %v", o, one, other)
		}
	}
	before := same.Export()
	next(t, s, 99, 9, 99, put("e", "x", 0))
	if same.Export() != before {
		t.Error("what is done to the one is done to the other")
	}
}

// sessionOf is the bytes of a session.
func sessionOf(n int) string {
	return wire.Num(uint64(n)) + "\x01\x00\x00\x00"
}

// sessionsOf is the bytes of so many sessions.
func sessionsOf(n int) string {
	s := wire.Num(uint64(n))
	for i := range n {
		s += sessionOf(i)
	}
	return s
}

// arcOf is the bytes of an Arc that keeps keys of so many.
func arcOf(most int, keys ...string) string {
	p, _ := policy.New(api.PolicyArc, most, 0)
	for _, key := range keys {
		p.Insert(key)
	}
	return p.Export()
}

// tableOf is the bytes of entries.
func tableOf(l ...api.Entry) string {
	t := table.New()
	for _, x := range l {
		t.Put(x)
	}
	return t.Export()
}

// wrong is bytes and what is told of them.
type wrong struct {
	name string
	s    string
	want api.Errno
}

// other is the bytes of ofArc, but for some of the parts.
func other(change func(p *parts)) string {
	p := ofArc()
	change(&p)
	return p.bytes()
}

func wrongConfigs() []wrong {
	rest := ofArc().bytes()[4:]
	config := func(s string) string { return other(func(p *parts) { p.config = s }) }
	return []wrong{
		{"nothing", "", api.ErrShort},
		{"policy 0", config("\x00\x02\x0a\x07"), api.ErrForm},
		{"policy 0, and no seed", "\x00\x02\x0a", api.ErrShort}, // asked behind the seed
		{"policy 0, and nothing behind the seed", "\x00\x02\x0a\x07", api.ErrForm},
		{"policy 0, and too many entries", "\x00\xe9\x07", api.ErrOver},
		{"policy 3", "\x03", api.ErrOver},
		{"policy 3, and all of it", config("\x03\x02\x0a\x07"), api.ErrOver},
		{"policy 2^32 and 1", config("\x81\x80\x80\x80\x10\x02\x0a\x07"), api.ErrOver},
		{"policy 1 not in its shortest form", config("\x81\x00\x02\x0a\x07"), api.ErrForm},
		{"no entries", config("\x01\x00\x0a\x07"), api.ErrForm},
		{"no entries, and no seed", "\x01\x00\x0a", api.ErrShort},
		{"no entries, and too many bytes", "\x01\x00\x81\x80\x40", api.ErrOver},
		{"1000 entries", "\x01\xe8\x07", api.ErrShort},
		{"1001 entries", "\x01\xe9\x07", api.ErrOver},
		{"1001 entries, and all of it", config("\x01\xe9\x07\x0a\x07"), api.ErrOver},
		{"2^64 - 1 entries", "\x01" + greatest, api.ErrOver},
		{"no bytes", config("\x01\x02\x00\x07"), api.ErrForm},
		{"no bytes, and nothing behind the seed", "\x01\x02\x00\x07", api.ErrForm},
		{"the most bytes", "\x01\x02\x80\x80\x40\x07" + rest, api.OK},
		{"one byte more than the most", "\x01\x02\x81\x80\x40", api.ErrOver},
		{"one byte more than the most, and all of it", config("\x01\x02\x81\x80\x40\x07"), api.ErrOver},
		{"2^64 - 1 bytes", "\x01\x02" + greatest, api.ErrOver},
		{"a seed of 65 bits", "\x01\x02\x0a" + nine + "\x02", api.ErrForm},
		{"the greatest seed", config("\x01\x02\x0a" + greatest), api.OK},
	}
}

func wrongNumbers() []wrong {
	head := ofArc().config
	places := func(s string) string { return other(func(p *parts) { p.places = s }) }
	tally := func(s string) string { return other(func(p *parts) { p.tally = s }) }
	const half, more = "\xff\xff\xff\xff\xff\xff\xff\xff\x7f", "\x80\x80\x80\x80\x80\x80\x80\x80\x80\x01" // 2^63 - 1, 2^63
	return []wrong{
		{"the greatest place", places(greatest + "\x04\x02"), api.OK},
		{"no record, and yet entries", places("\x00\x04\x02"), api.OK},
		{"a place of 65 bits", head + nine + "\x02", api.ErrForm},
		{"the greatest version", places("\x05\x04" + greatest), api.OK},
		{"a tick of 65 bits", head + "\x05" + nine + "\x02", api.ErrForm},
		{"a version of 65 bits", head + "\x05\x04" + nine + "\x02", api.ErrForm},
		{"a version not in its shortest form", head + "\x05\x04\x82\x00", api.ErrForm},
		{"none asked for", tally("\x00\x00"), api.OK},
		{"all there", tally("\x02\x02"), api.OK},
		{"more there than asked for", tally("\x02\x03"), api.ErrForm},
		{"more there than asked for, and nothing behind", head + "\x05\x04\x02" + "\x00\x01", api.ErrForm},
		{"as many there as asked for, and nothing behind", head + "\x05\x04\x02" + "\x01\x01", api.ErrShort},
		{"asked for 2^63 - 1 times", tally(half + "\x01"), api.OK},
		{"all of them there", tally(half + half), api.OK},
		{"asked for 2^63 times", tally(more + "\x01"), api.ErrOver},
		{"asked for 2^63 times, and nothing behind", head + "\x05\x04\x02" + more, api.ErrOver},
		{"asked for 2^64 - 1 times", tally(greatest + "\x01"), api.ErrOver},
		{"there 2^63 times", tally("\x02" + more), api.ErrOver}, // ahead of ErrForm
		{"there 2^64 - 1 times", tally(half + greatest), api.ErrOver},
		{"asked for times of 65 bits", head + "\x05\x04\x02" + nine + "\x02", api.ErrForm},
	}
}

func wrongContents() []wrong {
	entry := func(l ...api.Entry) string {
		return other(func(p *parts) { p.table = tableOf(l...) })
	}
	a, b := api.Entry{Key: "a", Value: "x", Version: 1, End: 8}, api.Entry{Key: "b", Value: "yz", Version: 2}
	keeps := func(s string) string { return other(func(p *parts) { p.policy = s }) }
	just := func(l []api.Entry, keys ...string) string {
		return other(func(p *parts) { p.table, p.policy = tableOf(l...), arcOf(2, keys...) })
	}
	ahead := func(change func(p *parts)) string { // nothing comes behind the policy
		return other(func(p *parts) { change(p); p.sessions = "" })
	}
	return []wrong{
		{"all of it", entry(a, b), api.OK},
		{"keys that fall", other(func(p *parts) { p.table = "\x02\x01b\x00\x01\x00\x01a\x00\x01\x00" }), api.ErrForm},
		{"keys that fall, and nothing behind", ofArc().config + "\x05\x04\x02\x02\x01\x02\x01b\x00\x01\x00\x01a\x00\x01\x00", api.ErrForm},
		{"too long a value", other(func(p *parts) { p.table = "\x01\x01a\x81\x20" }), api.ErrOver},
		{"too many entries for any", other(func(p *parts) { p.table = "\xe9\x07" }), api.ErrOver},
		{"no policy", ofArc().config + "\x05\x04\x02\x02\x01" + ofArc().table, api.ErrShort},
		{"a policy of no kind", keeps("\x00"), api.ErrForm},
		{"a policy of kind 3", keeps("\x03"), api.ErrOver},
		{"a policy that keeps too many", keeps("\x01\xe9\x07"), api.ErrOver},
		{"what is wrong of a policy goes ahead of what is wrong of entries", other(func(p *parts) { p.table, p.policy = tableOf(api.Entry{}), "\x03" }), api.ErrOver},

		{"tiny in the place of arc", keeps(ofTiny().policy), api.ErrForm},
		{"arc in the place of tiny", other(func(p *parts) { p.config = ofTiny().config }), api.ErrForm},
		{"tiny in the place of arc, and nothing behind", ahead(func(p *parts) { p.policy = ofTiny().policy }), api.ErrForm},
		{"nothing behind the policy", ahead(func(p *parts) {}), api.ErrShort},

		{"a key less", keeps(arcOf(2, "a")), api.ErrForm},
		{"another key", keeps(arcOf(2, "a", "c")), api.ErrForm},
		{"no key", keeps(arcOf(2)), api.ErrForm},
		{"an entry less", entry(b), api.ErrForm},
		{"another entry", entry(a, api.Entry{Key: "c", Version: 2}), api.ErrForm},
		{"no entry", entry(), api.ErrForm},
		{"neither", just(nil), api.OK},
		{"a key that went, and is just remembered", keeps("\x01\x02\x00" + "\x04\x05" + "\x01\x01b" + "\x00" + "\x01\x01a" + "\x00"), api.ErrForm},
		{"a key that is remembered besides", keeps("\x01\x02\x00" + "\x04\x05" + "\x01\x01b" + "\x01\x01a" + "\x01\x01c" + "\x00"), api.OK},
		{"a key less, and nothing behind", ahead(func(p *parts) { p.policy = arcOf(2, "a") }), api.ErrForm},

		{"an entry too many", other(func(p *parts) { p.config = "\x01\x01\x0a\x07" }), api.ErrForm},
		{"an entry too many, which the policy may keep", other(func(p *parts) { p.config, p.policy = "\x01\x01\x0a\x07", arcOf(3, "a", "b") }), api.ErrForm},
		{"just as many bytes", other(func(p *parts) { p.config = "\x01\x02\x05\x07" }), api.OK},
		{"a byte too many", other(func(p *parts) { p.config = "\x01\x02\x04\x07" }), api.ErrForm},
		{"a byte too many, and nothing behind", ahead(func(p *parts) { p.config = "\x01\x02\x04\x07" }), api.ErrForm},

		{"an empty key", just([]api.Entry{{Version: 1}, b}, "", "b"), api.ErrForm},
		{"just an empty key", just([]api.Entry{{Version: 1}}, ""), api.ErrForm},
		{"a version of 0", entry(api.Entry{Key: "a", Value: "x"}, b), api.ErrForm},
		{"a version above the last one", entry(a, api.Entry{Key: "b", Version: 3}), api.ErrForm},
		{"the greatest version", entry(a, api.Entry{Key: "b", Version: math.MaxUint64}), api.ErrForm},
		{"one version twice", entry(a, api.Entry{Key: "b", Version: 1}), api.OK}, // that is not asked
		{"an end at the tick", entry(api.Entry{Key: "a", Version: 1, End: 4}, b), api.ErrForm},
		{"an end just above it", entry(api.Entry{Key: "a", Version: 1, End: 5}, b), api.OK},
		{"an end of old", entry(a, api.Entry{Key: "b", Version: 2, End: 1}), api.ErrForm},
		{"an end above 2^63", entry(a, api.Entry{Key: "b", Version: 2, End: 1 << 63}), api.OK},
		{"the greatest end", entry(a, api.Entry{Key: "b", Version: 2, End: math.MaxUint64}), api.OK},
		{"any end at the last tick", other(func(p *parts) {
			p.places, p.table = "\x05"+greatest+"\x02", tableOf(api.Entry{Key: "a", Version: 1, End: math.MaxUint64}, b)
		}), api.ErrForm},
		{"no end at the last tick", other(func(p *parts) {
			p.places, p.table = "\x05"+greatest+"\x02", tableOf(api.Entry{Key: "a", Version: 1}, b)
		}), api.OK},
		{"an end at the tick, and nothing behind", ahead(func(p *parts) { p.table = tableOf(api.Entry{Key: "a", Version: 1, End: 4}, b) }), api.ErrForm},
		{"an end at the tick, and sessions too many", other(func(p *parts) {
			p.table, p.sessions = tableOf(api.Entry{Key: "a", Version: 1, End: 4}, b), "\x41"
		}), api.ErrForm},
		{"an end at the tick, and more behind all", other(func(p *parts) {
			p.table, p.sessions = tableOf(api.Entry{Key: "a", Version: 1, End: 4}, b), "\x00\x00"
		}), api.ErrForm},
	}
}

func wrongSessions() []wrong {
	sessions := func(s string) string { return other(func(p *parts) { p.sessions = s }) }
	return []wrong{
		{"none", sessions("\x00"), api.OK},
		{"none, and more", sessions("\x00\x00"), api.ErrExtra},
		{"two, and more", ofArc().bytes() + "\x00", api.ErrExtra},
		{"session 0", sessions("\x01" + sessionOf(0)), api.OK},
		{"the greatest session", sessions("\x01" + greatest + greatest + "\x00\x00" + greatest), api.OK},
		{"a session of 65 bits", sessions("\x01" + nine + "\x02"), api.ErrForm},
		{"a number of 65 bits", sessions("\x01\x01" + nine + "\x02"), api.ErrForm},
		{"64", sessions(sessionsOf(64)), api.OK},
		{"64, and all lack", sessions("\x40"), api.ErrShort},
		{"65", sessions(sessionsOf(65)), api.ErrOver},
		{"65, and all lack", sessions("\x41"), api.ErrOver},
		{"2^64 - 1", sessions(greatest), api.ErrOver},
		{"how many, not in its shortest form", sessions("\x80\x00"), api.ErrForm},
		{"one twice", sessions("\x02" + sessionOf(9) + sessionOf(9)), api.ErrForm},
		{"0 twice", sessions("\x02" + sessionOf(0) + sessionOf(0)), api.ErrForm},
		{"0 behind another one", sessions("\x02" + sessionOf(1) + sessionOf(0)), api.ErrForm},
		{"they fall", sessions("\x02" + sessionOf(9) + sessionOf(8)), api.ErrForm},
		{"the third falls", sessions("\x03" + sessionOf(3) + sessionOf(9) + sessionOf(5)), api.ErrForm},
		{"they fall, ahead of what lacks", sessions("\x03" + sessionOf(9) + sessionOf(8)), api.ErrForm},
		{"they fall, and its own number lacks", sessions("\x02" + sessionOf(9) + "\x08"), api.ErrForm}, // asked as soon as it is read
		{"they fall, and its error is too great", sessions("\x02" + sessionOf(9) + "\x08\x01\x80\x80\x04"), api.ErrForm},
		{"they rise, and its own number lacks", sessions("\x02" + sessionOf(9) + "\x0a"), api.ErrShort},
		{"they rise by bytes alone", sessions("\x02" + sessionOf(128) + sessionOf(129)), api.OK},
		{"the greatest error", sessions("\x01\x01\x01\xff\xff\x03\x00\x00"), api.OK},
		{"an error of 2^16", sessions("\x01\x01\x01\x80\x80\x04\x00\x00"), api.ErrOver},
		{"the longest value", sessions("\x01\x01\x01\x00\x80\x20" + strings.Repeat("v", 4096) + "\x00"), api.OK},
		{"too long a value", sessions("\x01\x01\x01\x00\x81\x20" + strings.Repeat("v", 4097) + "\x00"), api.ErrOver},
		{"a version of 65 bits", sessions("\x01\x01\x01\x00\x00" + nine + "\x02"), api.ErrForm},
	}
}

func TestImportTellsWhatCantBe(t *testing.T) {
	for part, l := range [][]wrong{wrongConfigs(), wrongNumbers(), wrongContents(), wrongSessions()} {
		for _, x := range l {
			s, e := Import(x.s)
			if e != x.want || (s != nil) != (e == api.OK) {
				t.Errorf("part %d: %s: %v, %d, not %d", part, x.name, s, e, x.want)
			}
			if s != nil && s.Export() != x.s {
				t.Errorf("part %d: %s: its bytes are %x, not %x", part, x.name, s.Export(), x.s)
			}
		}
	}
}

func TestImportOfBytesThatEnd(t *testing.T) {
	for _, p := range []parts{ofArc(), ofTiny()} {
		all := p.bytes()
		for n := range all {
			if s, e := Import(all[:n]); s != nil || e != api.ErrShort {
				t.Errorf("%d bytes of %d: %v, %d", n, len(all), s, e)
			}
		}
	}
}

// Whatever bytes are taken for a cache, its own bytes and its copy's are these, and it can be asked.
func TestImportOfSpoiltBytes(t *testing.T) {
	for _, p := range []parts{ofArc(), ofTiny()} {
		all := p.bytes()
		for at := range all {
			for b := range 256 {
				x := all[:at] + string([]byte{byte(b)}) + all[at+1:]
				s, e := Import(x)
				if (s != nil) != (e == api.OK) {
					t.Fatalf("byte %d is %d: %v, %d", at, b, s, e)
				}
				if s == nil {
					continue
				}
				if s.Export() != x || s.Copy().Export() != x {
					t.Fatalf("byte %d is %d: the bytes are others", at, b)
				}
				for i, o := range []api.Op{get("a"), put("c", "1234", 3), put("d", "1234567", 0), get("b"), del("a"), mark} {
					s.Apply(api.Record{Seq: s.Seq() + 1, Now: uint64(i), Session: 500, Num: uint64(i), Op: o})
				}
				if s.table.Len() != s.policy.Len() || s.table.Bytes() > s.Config().Bytes || s.Copy().Digest() != s.Digest() {
					t.Fatalf("byte %d is %d: it goes on otherwise", at, b)
				}
			}
		}
	}
}

// Behind the greatest place no record is the next one.
func TestTheGreatestPlace(t *testing.T) {
	s, e := Import(other(func(p *parts) { p.places = "\xfe" + greatest[1:] + "\x04\x02" }))
	if e != api.OK || s.Seq() != math.MaxUint64-1 {
		t.Fatal(s, e)
	}
	next(t, s, 0, 9, 6, get("b"))
	if s.Seq() != math.MaxUint64 {
		t.Error(s.Seq())
	}
	same := wantSame(t, "behind the greatest place", s)
	for _, seq := range []uint64{0, 1, math.MaxUint64 - 1, math.MaxUint64} {
		if reply, e := s.Apply(api.Record{Seq: seq, Now: 9, Session: 9, Num: 7, Op: get("b")}); reply != (api.Reply{}) || e != api.ErrSeq {
			t.Errorf("%d: %v, %d", seq, reply, e)
		}
	}
	same()
}

// What can't be counted any further stays: so the cache comes back from its own bytes.
func TestCountsAtTheirMost(t *testing.T) {
	const half = "\xff\xff\xff\xff\xff\xff\xff\xff\x7f"
	s, e := Import(other(func(p *parts) { p.places, p.tally = "\x05\x04"+greatest, half+"\x01" }))
	if e != api.OK {
		t.Fatal(e)
	}
	for i := range uint64(3) {
		next(t, s, 0, 9, 2*i+6, get("b"))
		if got := next(t, s, 0, 9, 2*i+7, put("b", strconv.Itoa(int(i)), 0)); got != wrote(math.MaxUint64) {
			t.Errorf("%v", got)
		}
		if s.Tally() != (api.Tally{Asked: math.MaxInt64, Hits: int64(i + 2)}) {
			t.Error(s.Tally())
		}
		if same, e := Import(s.Export()); e != api.OK || same.Export() != s.Export() {
			t.Error(e)
		}
	}
	s, _ = Import(other(func(p *parts) { p.tally = half + half }))
	next(t, s, 0, 9, 6, get("b"))
	if s.Tally() != (api.Tally{Asked: math.MaxInt64, Hits: math.MaxInt64}) {
		t.Error(s.Tally())
	}
}

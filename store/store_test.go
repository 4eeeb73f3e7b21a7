package store

import (
	"math"
	"slices"
	"strconv"
	"strings"
	"testing"

	"hawthorn/api"
	"hawthorn/blake"
	"hawthorn/policy"
)

func get(key string) api.Op { return api.Op{Kind: api.OpGet, Key: key} }
func del(key string) api.Op { return api.Op{Kind: api.OpDel, Key: key} }
func put(key, value string, ttl uint64) api.Op {
	return api.Op{Kind: api.OpPut, Key: key, Value: value, TTL: ttl}
}
func cas(key, value string, ttl, version uint64) api.Op {
	return api.Op{Kind: api.OpCas, Key: key, Value: value, TTL: ttl, Version: version}
}

var mark = api.Op{Kind: api.OpMark}

// fresh is a cache without anything, that has room for so much.
func fresh(t *testing.T, kind, entries, bytes int) *Store {
	t.Helper()
	s, e := New(api.Config{Policy: kind, Entries: entries, Bytes: bytes, Seed: 7})
	if e != api.OK || s == nil {
		t.Fatalf("a cache of kind %d, %d entries, %d bytes is %v, %d", kind, entries, bytes, s, e)
	}
	return s
}

// next does an operation as the next record.
func next(t *testing.T, s *Store, now, session, num uint64, o api.Op) api.Reply {
	t.Helper()
	reply, e := s.Apply(api.Record{Seq: s.Seq() + 1, Now: now, Session: session, Num: num, Op: o})
	if e != api.OK {
		t.Fatalf("%v at %d of %d, %d: %d", o, now, session, num, e)
	}
	return reply
}

// want does an operation as the next one of session 1, at the tick that it is, and holds what is told against what is to be told.
func want(t *testing.T, s *Store, o api.Op, reply api.Reply) {
	t.Helper()
	num, _, _ := s.Told(1)
	if got := next(t, s, s.Now(), 1, num+1, o); got != reply {
		t.Errorf("%.60v: told %.60v, not %.60v", o, got, reply)
	}
	if num2, noted, ok := s.Told(1); num2 != num+1 || noted != reply || !ok {
		t.Errorf("%.60v: noted %d, %.60v, %v", o, num2, noted, ok)
	}
}

func wrote(version uint64) api.Reply { return api.Reply{Version: version} }
func read(value string, version uint64) api.Reply {
	return api.Reply{Value: value, Version: version}
}
func fails(e api.Errno) api.Reply { return api.Reply{E: e} }

// wantKeys holds the keys that a cache keeps against those that it is to keep.
func wantKeys(t *testing.T, s *Store, keys ...string) {
	t.Helper()
	var got []string
	for _, x := range s.Entries() {
		got = append(got, x.Key)
	}
	if !slices.Equal(got, keys) {
		t.Errorf("it keeps %q, not %q", got, keys)
	}
}

// wantSame is a function that fails if a cache changed meanwhile.
func wantSame(t *testing.T, name string, s *Store) func() {
	before := s.Export()
	return func() {
		t.Helper()
		if s.Export() != before {
			t.Errorf("%s: it changed, from %x to %x", name, before, s.Export())
		}
	}
}

// calls is a policy to which calls came, each a letter (Insert, Touch, Miss, Remove, Evict) and a key behind it.
func calls(t *testing.T, s *Store, l ...string) *policy.Policy {
	t.Helper()
	c := s.Config()
	p, e := policy.New(c.Policy, c.Entries, c.Seed)
	if e != api.OK {
		t.Fatal(e)
	}
	for _, call := range l {
		switch key := call[1:]; call[0] {
		case 'I':
			p.Insert(key)
		case 'T':
			p.Touch(key)
		case 'M':
			p.Miss(key)
		case 'R':
			p.Remove(key)
		case 'E':
			p.Evict()
		}
	}
	return p
}

// wantCalls holds a cache's policy, bit by bit, against one to which just these calls came.
func wantCalls(t *testing.T, name string, s *Store, l ...string) {
	t.Helper()
	if got, want := s.policy.Export(), calls(t, s, l...).Export(); got != want {
		t.Errorf("%s: the policy is %x, not %x as by %q", name, got, want, l)
	}
}

func kinds() []int { return []int{api.PolicyArc, api.PolicyTiny} }

func TestNumbersOfTheChapter(t *testing.T) {
	if api.ErrBig != 120 || api.ErrCas != 121 || api.ErrOld != 122 || api.ErrSeq != 123 || api.ErrOver != 3 || api.ErrNone != 2 || api.ErrInput != 1 {
		t.Error(api.ErrBig, api.ErrCas, api.ErrOld, api.ErrSeq)
	}
	if api.MostBytes != 1<<20 || api.MostSessions != 64 || api.MostEntries != 1000 {
		t.Error(api.MostBytes, api.MostSessions, api.MostEntries)
	}
}

func TestWhichCachesMayBe(t *testing.T) {
	for _, x := range []struct {
		kind, entries, bytes int
		may                  bool
	}{
		{1, 1, 1, true}, {2, 1, 1, true}, {1, 1000, 1 << 20, true}, {2, 1000, 1 << 20, true}, {1, 1000, 1, true}, {2, 1, 1 << 20, true},
		{0, 8, 100, false}, {3, 8, 100, false}, {-1, 8, 100, false}, {257, 8, 100, false}, {math.MaxInt, 8, 100, false}, {math.MinInt, 8, 100, false},
		{1, 0, 100, false}, {1, -1, 100, false}, {1, 1001, 100, false}, {2, 1001, 100, false}, {2, 0, 100, false}, {1, math.MaxInt, 100, false}, {1, math.MinInt, 100, false},
		{1, 8, 0, false}, {1, 8, -1, false}, {1, 8, 1<<20 + 1, false}, {2, 8, 1<<20 + 1, false}, {2, 8, 0, false}, {1, 8, math.MaxInt, false}, {1, 8, math.MinInt, false},
		{0, 0, 0, false},
	} {
		for _, seed := range []uint64{0, 1, 1 << 63, math.MaxUint64} {
			c := api.Config{Policy: x.kind, Entries: x.entries, Bytes: x.bytes, Seed: seed}
			if Check(c) != x.may {
				t.Errorf("whether %v may be: %v", c, Check(c))
			}
			s, e := New(c)
			if x.may && (e != api.OK || s == nil || s.Config() != c) {
				t.Errorf("New(%v): %v, %d", c, s, e)
			}
			if !x.may && (e != api.ErrInput || s != nil) {
				t.Errorf("New(%v): %v, %d", c, s, e)
			}
		}
	}
}

func TestNewHasNothing(t *testing.T) {
	for _, kind := range kinds() {
		s := fresh(t, kind, 3, 50)
		if s.Seq() != 0 || s.Now() != 0 || s.Tally() != (api.Tally{}) || len(s.Entries()) != 0 {
			t.Errorf("kind %d: %d, %d, %v, %v", kind, s.Seq(), s.Now(), s.Tally(), s.Entries())
		}
		if num, reply, ok := s.Told(0); num != 0 || reply != (api.Reply{}) || ok {
			t.Errorf("kind %d: told %d, %v, %v", kind, num, reply, ok)
		}
	}
}

func TestRecordsAreDoneInTheirOrder(t *testing.T) {
	s := fresh(t, api.PolicyArc, 3, 50)
	for seq := uint64(1); seq <= 4; seq++ {
		same := wantSame(t, "a record that is not the next one", s)
		for _, other := range []uint64{0, seq - 1, seq + 1, seq + 1<<32, math.MaxUint64, -seq} {
			if other == seq {
				continue
			}
			reply, e := s.Apply(api.Record{Seq: other, Now: 9, Session: 5, Num: 9, Op: put("x", "y", 0)})
			if reply != (api.Reply{}) || e != api.ErrSeq {
				t.Errorf("%d behind %d: %v, %d", other, seq-1, reply, e)
			}
		}
		same()
		reply, e := s.Apply(api.Record{Seq: seq, Now: seq, Session: 1, Num: seq, Op: put("a", "b", 0)})
		if reply != wrote(seq) || e != api.OK || s.Seq() != seq {
			t.Errorf("%d: %v, %d, behind it %d", seq, reply, e, s.Seq())
		}
	}
}

func TestOperationsThatMayNotBe(t *testing.T) {
	s := fresh(t, api.PolicyTiny, 3, 50)
	want(t, s, put("a", "b", 3), wrote(1))
	same := wantSame(t, "an operation that may not be", s)
	for _, o := range []api.Op{
		{}, {Kind: -1}, {Kind: 6}, {Kind: 6, Key: "a"}, {Kind: math.MaxInt, Key: "a"},
		{Kind: api.OpGet}, {Kind: api.OpDel}, {Kind: api.OpPut}, {Kind: api.OpCas, Version: 1},
		{Kind: api.OpGet, Key: "a", Value: "b"}, {Kind: api.OpDel, Key: "a", TTL: 1}, {Kind: api.OpPut, Key: "a", Version: 1},
		{Kind: api.OpCas, Key: "a"}, {Kind: api.OpMark, Key: "a"},
		get(strings.Repeat("k", 65)), put("a", strings.Repeat("v", 4097), 0), put("a", "", 1<<30+1),
	} {
		for _, seq := range []uint64{2, 1, 0, 3, 9} { // and it goes ahead of a wrong place
			reply, e := s.Apply(api.Record{Seq: seq, Now: 99, Session: 1, Num: 9, Op: o})
			if reply != (api.Reply{}) || e != api.ErrInput {
				t.Errorf("%.60v at %d: %v, %d", o, seq, reply, e)
			}
		}
	}
	same()
}

func TestTheTickIsTheGreatest(t *testing.T) {
	s := fresh(t, api.PolicyArc, 3, 50)
	for i, x := range []struct{ now, want uint64 }{{0, 0}, {5, 5}, {4, 5}, {0, 5}, {6, 6}, {6, 6}, {1 << 63, 1 << 63}, {7, 1 << 63}, {math.MaxUint64, math.MaxUint64}, {0, math.MaxUint64}} {
		o := mark
		if i%2 == 0 {
			o = get("a")
		}
		next(t, s, x.now, 1, 1, o)
		if s.Now() != x.want {
			t.Errorf("at %d: %d", x.now, s.Now())
		}
	}
}

func TestWhenEntriesEnd(t *testing.T) {
	for _, x := range []struct {
		name              string
		now, ttl, want    uint64
		last, gone, later uint64 // the last tick at which it is there, and the first at which it is not: 0, if there is none
	}{
		{name: "never", now: 5, ttl: 0, want: 0, last: math.MaxUint64},
		{name: "one tick", now: 5, ttl: 1, want: 6, last: 5, gone: 6},
		{name: "ten ticks", now: 5, ttl: 10, want: 15, last: 14, gone: 15, later: 99},
		{name: "at the first tick", now: 0, ttl: 1, want: 1, last: 0, gone: 1},
		{name: "the most", now: 5, ttl: 1 << 30, want: 1<<30 + 5, last: 1<<30 + 4, gone: 1<<30 + 5},
		{name: "just the last tick", now: math.MaxUint64 - 9, ttl: 9, want: math.MaxUint64, last: math.MaxUint64 - 1, gone: math.MaxUint64},
		{name: "behind the last tick", now: math.MaxUint64 - 9, ttl: 10, want: math.MaxUint64, last: math.MaxUint64 - 1, gone: math.MaxUint64},
		{name: "far behind it", now: math.MaxUint64 - 9, ttl: 1 << 30, want: math.MaxUint64, last: math.MaxUint64 - 1, gone: math.MaxUint64},
		{name: "ahead of the last tick", now: math.MaxUint64 - 9, ttl: 8, want: math.MaxUint64 - 1, last: math.MaxUint64 - 2, gone: math.MaxUint64 - 1},
		{name: "at the last tick but one", now: math.MaxUint64 - 1, ttl: 1, want: math.MaxUint64, last: math.MaxUint64 - 1, gone: math.MaxUint64},
		{name: "at the last tick", now: math.MaxUint64, ttl: 1, want: 0, last: math.MaxUint64},
		{name: "the most at the last tick", now: math.MaxUint64, ttl: 1 << 30, want: 0, last: math.MaxUint64},
	} {
		for _, kind := range kinds() {
			s := fresh(t, kind, 3, 50)
			next(t, s, x.now, 1, 1, put("a", "x", x.ttl))
			if l := s.Entries(); len(l) != 1 || l[0].End != x.want {
				t.Errorf("%s: %v, to end at %d", x.name, l, x.want)
			}
			if got := next(t, s, x.last, 1, 2, get("a")); got != read("x", 1) {
				t.Errorf("%s: at %d: %v", x.name, x.last, got)
			}
			if x.gone == 0 {
				continue
			}
			if got := next(t, s, max(x.gone, x.later), 1, 3, get("a")); got != fails(api.ErrNone) || len(s.Entries()) != 0 {
				t.Errorf("%s: at %d: %v", x.name, x.gone, got)
			}
		}
	}
}

// The tick is the cache's own: a record that is behind it lays what ends by it.
func TestEndsGoByTheCachesTick(t *testing.T) {
	s := fresh(t, api.PolicyArc, 3, 50)
	next(t, s, 100, 1, 1, mark)
	next(t, s, 3, 1, 1, put("a", "x", 5))
	if l := s.Entries(); len(l) != 1 || l[0].End != 105 {
		t.Errorf("%v", l)
	}
	next(t, s, 104, 1, 2, cas("a", "y", 7, 1))
	if l := s.Entries(); len(l) != 1 || l[0] != (api.Entry{Key: "a", Value: "y", Version: 2, End: 111}) {
		t.Errorf("%v", l)
	}
	next(t, s, 110, 1, 3, put("a", "z", 0)) // and one that never ends stands in its place
	next(t, s, 1<<40, 1, 4, mark)
	wantKeys(t, s, "a")
}

// What ended goes ahead of whatever a record is about, though nothing else be done.
func TestWhatEndedGoesFirst(t *testing.T) {
	for _, x := range []struct {
		name         string
		session, num uint64
		o            api.Op
		want         api.Reply
	}{
		{"a mark", 1, 0, mark, api.Reply{}},
		{"a record of old", 1, 1, get("a"), fails(api.ErrOld)},
		{"one that was told", 1, 5, get("a"), wrote(2)},
		{"a session too much", 999, 1, put("a", "x", 0), fails(api.ErrOver)},
		{"get", 1, 6, get("a"), fails(api.ErrNone)},
		{"del", 1, 6, del("a"), fails(api.ErrNone)},
		{"cas", 1, 6, cas("a", "y", 0, 1), fails(api.ErrNone)},
	} {
		s := fresh(t, api.PolicyArc, 3, 50)
		for session := range uint64(63) {
			next(t, s, 0, 100+session, 1, get("none"))
		}
		next(t, s, 0, 1, 4, put("a", "x", 9))
		next(t, s, 0, 1, 5, put("b", "x", 10))
		if got := next(t, s, 9, x.session, x.num, x.o); got != x.want {
			t.Errorf("%s: %v", x.name, got)
		}
		wantKeys(t, s, "b")
		wantCalls(t, x.name, s, "Ia", "Ib", "Ra")
	}
}

// What ended is forgotten by the policy, too: it is no key that went to make room.
func TestWhatEndedIsRemoved(t *testing.T) {
	for _, kind := range kinds() {
		s := fresh(t, kind, 4, 50)
		for i, key := range []string{"d", "b", "a", "c"} {
			next(t, s, 0, 1, uint64(i+1), put(key, "x", 3))
		}
		next(t, s, 2, 1, 5, put("b", "y", 0))
		next(t, s, 3, 1, 6, mark)
		wantKeys(t, s, "b")
		wantCalls(t, "ended", s, "Id", "Ib", "Ia", "Ic", "Ib", "Ra", "Rc", "Rd")
	}
}

func TestAMarkDoesNothingMore(t *testing.T) {
	s := fresh(t, api.PolicyTiny, 3, 50)
	next(t, s, 1, 1, 5, put("a", "x", 0))
	policyBefore := s.policy.Export()
	for i, x := range []struct{ session, num uint64 }{{1, 5}, {1, 4}, {1, 6}, {2, 1}, {0, 0}, {math.MaxUint64, math.MaxUint64}} {
		if got := next(t, s, 2, x.session, x.num, mark); got != (api.Reply{}) {
			t.Errorf("%v: told %v", x, got)
		}
		if s.Seq() != uint64(i+2) || s.Now() != 2 || s.Tally() != (api.Tally{}) || s.policy.Export() != policyBefore || len(s.sessions) != 1 {
			t.Errorf("%v: it does more", x)
		}
	}
	if num, reply, ok := s.Told(1); num != 5 || reply != wrote(1) || !ok {
		t.Errorf("%d, %v, %v", num, reply, ok)
	}
}

func TestASessionIsToldAsItWas(t *testing.T) {
	for _, x := range []struct {
		name string
		o    api.Op
		want api.Reply
	}{
		{"get", get("a"), read("x", 1)},
		{"get of none", get("c"), fails(api.ErrNone)},
		{"put", put("c", "y", 0), wrote(3)},
		{"put of what is too big", put("c", strings.Repeat("y", 50), 0), fails(api.ErrBig)},
		{"del", del("a"), wrote(1)},
		{"del of none", del("c"), fails(api.ErrNone)},
		{"cas", cas("a", "y", 0, 1), wrote(3)},
		{"cas of another version", cas("b", "y", 0, 1), api.Reply{E: api.ErrCas, Version: 2}},
		{"cas of none", cas("c", "y", 0, 1), fails(api.ErrNone)},
	} {
		for _, kind := range kinds() {
			s := fresh(t, kind, 3, 50)
			next(t, s, 0, 1, 1, put("a", "x", 0))
			next(t, s, 0, 1, 2, put("b", "x", 0))
			if got := next(t, s, 0, 2, 7, x.o); got != x.want {
				t.Fatalf("%s: %v, not %v", x.name, got, x.want)
			}
			next(t, s, 0, 1, 3, put("a", "another", 0)) // what is there now is of no weight
			kept, tally := s.table.Export()+s.policy.Export(), s.Tally()
			for _, o := range []api.Op{x.o, x.o, get("a"), put("z", "z", 0)} { // nor what is asked for now
				if got := next(t, s, 0, 2, 7, o); got != x.want {
					t.Errorf("%s, again: %v, not %v", x.name, got, x.want)
				}
			}
			for _, num := range []uint64{6, 1, 0} {
				if got := next(t, s, 0, 2, num, x.o); got != fails(api.ErrOld) {
					t.Errorf("%s, as the %d-th: %v", x.name, num, got)
				}
			}
			if num, reply, ok := s.Told(2); num != 7 || reply != x.want || !ok {
				t.Errorf("%s: noted %d, %v, %v", x.name, num, reply, ok)
			}
			if s.table.Export()+s.policy.Export() != kept || s.Tally() != tally || s.Seq() != 11 {
				t.Errorf("%s: it is done once more", x.name)
			}
		}
	}
}

func TestNumbersOfSessions(t *testing.T) {
	s := fresh(t, api.PolicyArc, 3, 50)
	for _, x := range []struct {
		session, num uint64
		want         api.Reply
	}{
		{0, 0, wrote(1)}, {0, 0, wrote(1)}, {0, 1, wrote(2)}, {0, 0, fails(api.ErrOld)},
		{math.MaxUint64, math.MaxUint64, wrote(3)}, {math.MaxUint64, math.MaxUint64, wrote(3)}, {math.MaxUint64, math.MaxUint64 - 1, fails(api.ErrOld)},
		{5, 9, wrote(4)}, {5, 11, wrote(5)}, {5, 10, fails(api.ErrOld)}, {5, 9, fails(api.ErrOld)}, {5, 11, wrote(5)}, {5, 1 << 40, wrote(6)},
		{0, 1, wrote(2)}, {0, 2, wrote(7)},
	} {
		if got := next(t, s, 0, x.session, x.num, put("a", "x", 0)); got != x.want {
			t.Errorf("session %d, number %d: %v, not %v", x.session, x.num, got, x.want)
		}
	}
	for _, x := range []struct {
		session, num uint64
		want         api.Reply
		ok           bool
	}{{0, 2, wrote(7), true}, {5, 1 << 40, wrote(6), true}, {math.MaxUint64, math.MaxUint64, wrote(3), true}, {1, 0, api.Reply{}, false}, {6, 0, api.Reply{}, false}} {
		if num, reply, ok := s.Told(x.session); num != x.num || reply != x.want || ok != x.ok {
			t.Errorf("session %d: %d, %v, %v", x.session, num, reply, ok)
		}
	}
}

func TestSessionsTooMany(t *testing.T) {
	s := fresh(t, api.PolicyTiny, 3, 50)
	for session := range uint64(64) {
		if got := next(t, s, 0, session*3, 1, get("a")); got != fails(api.ErrNone) {
			t.Fatalf("session %d: %v", session*3, got)
		}
	}
	kept, tally := s.table.Export()+s.policy.Export()+s.exportSessions(), s.Tally()
	for _, o := range []api.Op{get("a"), put("a", "x", 0), del("a"), cas("a", "x", 0, 1), put("a", strings.Repeat("x", 50), 0)} {
		seq := s.Seq()
		for _, session := range []uint64{1, 191, math.MaxUint64} {
			if got := next(t, s, 0, session, 0, o); got != fails(api.ErrOver) {
				t.Errorf("%v of session %d: %v", o, session, got)
			}
			if num, reply, ok := s.Told(session); num != 0 || reply != (api.Reply{}) || ok {
				t.Errorf("%v of session %d: it is noted: %d, %v", o, session, num, reply)
			}
		}
		if s.Seq() != seq+3 {
			t.Errorf("%v: it is not counted as a record: %d", o, s.Seq())
		}
	}
	if s.table.Export()+s.policy.Export()+s.exportSessions() != kept || s.Tally() != tally {
		t.Error("they do something")
	}
	if got := next(t, s, 0, 189, 2, put("a", "x", 0)); got != wrote(1) {
		t.Errorf("one that is known goes on: %v", got)
	}
	if got := next(t, s, 0, 0, 0, get("a")); got != fails(api.ErrOld) {
		t.Errorf("one that is known, of old: %v", got)
	}
}

func TestGet(t *testing.T) {
	for _, kind := range kinds() {
		s := fresh(t, kind, 4, 50)
		want(t, s, put("a", "x", 0), wrote(1))
		want(t, s, put("b", "", 0), wrote(2))
		for _, x := range []struct {
			key   string
			want  api.Reply
			tally api.Tally
		}{
			{"a", read("x", 1), api.Tally{Asked: 1, Hits: 1}},
			{"c", fails(api.ErrNone), api.Tally{Asked: 2, Hits: 1}},
			{"b", read("", 2), api.Tally{Asked: 3, Hits: 2}},
			{"c", fails(api.ErrNone), api.Tally{Asked: 4, Hits: 2}},
			{"a", read("x", 1), api.Tally{Asked: 5, Hits: 3}},
		} {
			want(t, s, get(x.key), x.want)
			if s.Tally() != x.tally {
				t.Errorf("kind %d, %s: %v", kind, x.key, s.Tally())
			}
		}
		wantCalls(t, "get", s, "Ia", "Ib", "Ta", "Mc", "Tb", "Mc", "Ta")
		wantKeys(t, s, "a", "b")
	}
}

// Only a get asks for something: all others are not counted.
func TestTheTallyIsOfGetsAlone(t *testing.T) {
	s := fresh(t, api.PolicyArc, 4, 50)
	want(t, s, put("a", "x", 0), wrote(1))
	want(t, s, cas("a", "y", 0, 1), wrote(2))
	want(t, s, cas("b", "y", 0, 1), fails(api.ErrNone))
	want(t, s, del("b"), fails(api.ErrNone))
	want(t, s, del("a"), wrote(2))
	next(t, s, 0, 1, 1, mark)
	next(t, s, 0, 1, 1, get("a")) // of old
	if s.Tally() != (api.Tally{}) {
		t.Error(s.Tally())
	}
}

func TestDel(t *testing.T) {
	for _, kind := range kinds() {
		s := fresh(t, kind, 4, 50)
		want(t, s, put("a", "x", 0), wrote(1))
		want(t, s, put("b", "x", 5), wrote(2))
		want(t, s, put("a", "y", 0), wrote(3))
		want(t, s, del("c"), fails(api.ErrNone))
		want(t, s, del("a"), wrote(3))
		want(t, s, del("a"), fails(api.ErrNone))
		wantKeys(t, s, "b")
		wantCalls(t, "del", s, "Ia", "Ib", "Ia", "Ra")
		want(t, s, get("a"), fails(api.ErrNone))
		want(t, s, put("a", "z", 0), wrote(4)) // versions go on
		want(t, s, del("b"), wrote(2))
		wantKeys(t, s, "a")
	}
}

// A key that went to make room is not there: del tells that, and arc remembers it as before.
func TestDelOfOneThatWent(t *testing.T) {
	s := fresh(t, api.PolicyArc, 2, 50)
	for i, key := range []string{"a", "b"} {
		want(t, s, put(key, "x", 0), wrote(uint64(i+1)))
	}
	want(t, s, get("b"), read("x", 2))
	want(t, s, put("c", "x", 0), wrote(3)) // a goes, and is remembered
	want(t, s, del("a"), fails(api.ErrNone))
	wantCalls(t, "del of one that went", s, "Ia", "Ib", "Tb", "Ic")
	wantKeys(t, s, "b", "c")
}

func TestPutTellsItsVersion(t *testing.T) {
	s := fresh(t, api.PolicyArc, 3, 50)
	for i, key := range []string{"b", "a", "b", "b", "c", "a"} {
		want(t, s, put(key, "x"+strconv.Itoa(i), uint64(i)), wrote(uint64(i+1)))
	}
	l := []api.Entry{{Key: "a", Value: "x5", Version: 6, End: 5}, {Key: "b", Value: "x3", Version: 4, End: 3}, {Key: "c", Value: "x4", Version: 5, End: 4}}
	if !slices.Equal(s.Entries(), l) {
		t.Errorf("%v", s.Entries())
	}
	wantCalls(t, "put", s, "Ib", "Ia", "Ib", "Ib", "Ic", "Ia")
}

func TestPutOfWhatIsTooBig(t *testing.T) {
	for _, kind := range kinds() {
		s := fresh(t, kind, 3, 10)
		want(t, s, put("ab", "x", 0), wrote(1))
		same := s.table.Export() + s.policy.Export()
		want(t, s, put("ab", strings.Repeat("y", 9), 0), fails(api.ErrBig)) // it stays as it was
		want(t, s, put(strings.Repeat("k", 11), "", 0), fails(api.ErrBig))
		want(t, s, put("c", strings.Repeat("y", 4096), 0), fails(api.ErrBig))
		want(t, s, cas("ab", strings.Repeat("y", 9), 0, 1), fails(api.ErrBig))
		want(t, s, cas("ab", strings.Repeat("y", 9), 0, 2), api.Reply{E: api.ErrCas, Version: 1}) // asked ahead of it
		want(t, s, cas("c", strings.Repeat("y", 10), 0, 2), fails(api.ErrNone))
		if s.table.Export()+s.policy.Export() != same {
			t.Errorf("kind %d: what is too big changes what is kept", kind)
		}
		want(t, s, put("ab", strings.Repeat("y", 8), 0), wrote(2)) // no version was lost
		wantKeys(t, s, "ab")
		want(t, s, cas("ab", strings.Repeat("z", 8), 0, 2), wrote(3))
		want(t, s, put(strings.Repeat("k", 10), "", 0), wrote(4))
		want(t, s, get(strings.Repeat("k", 11)), fails(api.ErrNone)) // who just asks may
	}
	s := fresh(t, api.PolicyArc, 1, 1)
	want(t, s, put("a", "b", 0), fails(api.ErrBig))
	want(t, s, put("a", "", 0), wrote(1))
	want(t, s, put("b", "", 0), wrote(2))
	wantKeys(t, s, "b")
}

func TestCas(t *testing.T) {
	for _, kind := range kinds() {
		s := fresh(t, kind, 3, 50)
		want(t, s, cas("a", "x", 0, 1), fails(api.ErrNone))
		want(t, s, put("a", "x", 0), wrote(1))
		want(t, s, put("b", "x", 0), wrote(2))
		want(t, s, cas("a", "y", 9, 2), api.Reply{E: api.ErrCas, Version: 1})
		want(t, s, cas("a", "y", 9, math.MaxUint64), api.Reply{E: api.ErrCas, Version: 1})
		wantCalls(t, "cas that fails", s, "Ia", "Ib")
		want(t, s, cas("a", "y", 9, 1), wrote(3)) // versions that were not given are none
		want(t, s, cas("a", "z", 9, 1), api.Reply{E: api.ErrCas, Version: 3})
		wantCalls(t, "cas", s, "Ia", "Ib", "Ia")
		if x := s.Entries()[0]; x != (api.Entry{Key: "a", Value: "y", Version: 3, End: 9}) {
			t.Errorf("kind %d: %v", kind, x)
		}
	}
}

func TestExampleOfTheChapter(t *testing.T) {
	s := fresh(t, api.PolicyArc, 8, 1000)
	want(t, s, put("a", "x", 0), wrote(1))
	want(t, s, cas("a", "y", 0, 1), wrote(2))
}

// Which key goes is the policy's: arc lets the first one go, tiny the one that was held against another one.
func TestEntriesTooMany(t *testing.T) {
	for _, x := range []struct {
		kind int
		kept []string
	}{{api.PolicyArc, []string{"b", "c"}}, {api.PolicyTiny, []string{"a", "c"}}} {
		s := fresh(t, x.kind, 2, 50)
		want(t, s, put("a", "x", 0), wrote(1))
		want(t, s, put("b", "x", 0), wrote(2))
		want(t, s, put("c", "x", 0), wrote(3))
		wantKeys(t, s, x.kept...)
		wantCalls(t, "too many", s, "Ia", "Ib", "Ic")
	}
}

// Where the window holds just one, a new key that was seen no more often than another one goes at once: its version was told all the same.
func TestWhatIsLaidMayGoItself(t *testing.T) {
	s := fresh(t, api.PolicyTiny, 1, 50)
	want(t, s, put("a", "x", 0), wrote(1))
	want(t, s, put("b", "x", 0), wrote(2))
	wantCalls(t, "tiny of one", s, "Ia", "Ib")
	if s.table.Len() != 1 || s.policy.Len() != 1 {
		t.Errorf("%v are kept", s.Entries())
	}

	s = fresh(t, api.PolicyArc, 4, 10) // by its bytes: the last one of those that were asked for once is itself
	want(t, s, put("a", "1234", 0), wrote(1))
	want(t, s, get("a"), read("1234", 1))
	want(t, s, put("b", "12345", 0), wrote(2))
	wantKeys(t, s, "a")
	want(t, s, get("b"), fails(api.ErrNone))
	wantCalls(t, "arc by bytes", s, "Ia", "Ta", "Ib", "E", "Mb")
}

func TestBytesTooMany(t *testing.T) {
	s := fresh(t, api.PolicyArc, 8, 12)
	for i, key := range []string{"a", "b", "c", "d"} {
		want(t, s, put(key, "12", 0), wrote(uint64(i+1)))
	}
	wantKeys(t, s, "a", "b", "c", "d") // just as many as it keeps
	wantCalls(t, "just as many", s, "Ia", "Ib", "Ic", "Id")
	want(t, s, put("e", "", 0), wrote(5))
	wantKeys(t, s, "b", "c", "d", "e")
	want(t, s, put("f", "123456", 0), wrote(6)) // two go for it, and no more than that
	wantKeys(t, s, "d", "e", "f")
	wantCalls(t, "too many", s, "Ia", "Ib", "Ic", "Id", "Ie", "E", "If", "E", "E")
	want(t, s, put("d", "123", 0), wrote(7)) // what it had before does not count
	wantKeys(t, s, "d", "e", "f")
	want(t, s, cas("e", "1", 0, 5), wrote(8))
	wantKeys(t, s, "d", "e")
	want(t, s, put("g", "12345678901", 0), wrote(9)) // d and e were asked for more often: it goes itself
	wantKeys(t, s, "d", "e")
}

// By one put both: a key goes for the new one, and then another one for its bytes.
func TestEntriesAndBytesTooMany(t *testing.T) {
	s := fresh(t, api.PolicyArc, 3, 9)
	for i, key := range []string{"a", "b", "c"} {
		want(t, s, put(key, "12", 0), wrote(uint64(i+1)))
	}
	want(t, s, get("b"), read("12", 2))
	want(t, s, put("d", "12345", 0), wrote(4))
	wantKeys(t, s, "b", "d")
	wantCalls(t, "both", s, "Ia", "Ib", "Ic", "Tb", "Id", "E")
}

func TestTheFullest(t *testing.T) {
	for _, kind := range kinds() {
		s := fresh(t, kind, 1000, 1<<20)
		value := strings.Repeat("v", 4096)
		for i := range 1100 {
			want(t, s, put("k"+strconv.Itoa(i), value, 0), wrote(uint64(i+1)))
			if s.table.Bytes() > 1<<20 || s.table.Len() != s.policy.Len() {
				t.Fatalf("kind %d: %d bytes, %d and %d keys", kind, s.table.Bytes(), s.table.Len(), s.policy.Len())
			}
		}
		for i := range 1100 {
			want(t, s, put("k"+strconv.Itoa(i), "", 0), wrote(uint64(i+1101)))
		}
		if n := len(s.Entries()); n != 1000 {
			t.Errorf("kind %d: %d entries", kind, n)
		}
		if same, e := Import(s.Export()); e != api.OK || same.Digest() != s.Digest() {
			t.Errorf("kind %d: %d", kind, e)
		}
	}
}

func TestEntriesAreByTheirKeys(t *testing.T) {
	s := fresh(t, api.PolicyArc, 9, 100)
	keys := []string{"\x00", "10", "2", "B", "a", "aa", "b", "\x80", "\xff"}
	for _, i := range []int{4, 8, 0, 7, 2, 1, 6, 3, 5} {
		next(t, s, 0, uint64(i), 1, put(keys[i], "x", 0))
	}
	wantKeys(t, s, keys...)
}

func TestDigestIsTheSumOfItsBytes(t *testing.T) {
	for _, kind := range kinds() {
		s := fresh(t, kind, 3, 50)
		before := ""
		for i, o := range []api.Op{mark, put("a", "x", 0), get("a"), get("b"), get("b"), del("a")} {
			next(t, s, 0, 1, uint64(i+1), o)
			if s.Digest() != blake.Sum(s.Export()) || len(s.Digest()) != api.SumBytes || s.Digest() == before {
				t.Errorf("kind %d, %v: %x", kind, o, s.Digest())
			}
			before = s.Digest()
		}
	}
}

func TestCopyIsTheSame(t *testing.T) {
	for _, kind := range kinds() {
		s := fresh(t, kind, 2, 50)
		for i, o := range []api.Op{put("a", "x", 9), get("a"), put("b", "y", 0), get("c"), put("c", "z", 0)} {
			next(t, s, 3, uint64(i%2), uint64(i), o)
		}
		c := s.Copy()
		if c == nil || c == s || c.Export() != s.Export() || c.Digest() != s.Digest() || c.Config() != s.Config() || c.Tally() != s.Tally() {
			t.Fatalf("kind %d: the copy is %v", kind, c)
		}
		same := wantSame(t, "the copy", c)
		next(t, s, 5, 1, 9, put("d", "new", 3))
		next(t, s, 20, 7, 1, del("a"))
		same()
		same = wantSame(t, "the one", s)
		next(t, c, 5, 1, 9, get("b"))
		next(t, c, 20, 7, 1, put("e", "", 0))
		same()
	}
}

func TestWhatIsToldIsTheAskersOwn(t *testing.T) {
	s := fresh(t, api.PolicyArc, 3, 50)
	want(t, s, put("a", "x", 0), wrote(1))
	want(t, s, put("b", "y", 0), wrote(2))
	same := wantSame(t, "what was told", s)
	l, c := s.Entries(), s.Config()
	l[0], l[1].Value, c.Bytes = api.Entry{Key: "z"}, "z", 1
	_ = append(l[:1], api.Entry{Key: "z"})
	same()
	l = s.Entries()
	want(t, s, put("a", "z", 0), wrote(3))
	want(t, s, del("b"), wrote(2))
	if l[0] != (api.Entry{Key: "a", Value: "x", Version: 1}) || l[1].Key != "b" {
		t.Errorf("%v", l)
	}
}

func TestNilHasNothing(t *testing.T) {
	for _, s := range []*Store{nil, {}} {
		for _, o := range []api.Op{mark, get("a"), put("a", "x", 0), {}} {
			for seq := range uint64(3) {
				if reply, e := s.Apply(api.Record{Seq: seq, Now: 1, Session: 1, Num: 1, Op: o}); reply != (api.Reply{}) || e != api.ErrInput {
					t.Errorf("%v: %v, %d", o, reply, e)
				}
			}
		}
		num, reply, ok := s.Told(1)
		if s.Config() != (api.Config{}) || s.Seq() != 0 || s.Now() != 0 || s.Tally() != (api.Tally{}) || num != 0 || reply != (api.Reply{}) || ok {
			t.Error("it has something:", s.Config(), s.Seq(), s.Now(), s.Tally(), num, reply, ok)
		}
		if len(s.Entries()) != 0 || s.Export() != "" || s.Digest() != "" || s.Copy() != nil {
			t.Errorf("it has something: %v, %q, %q, %v", s.Entries(), s.Export(), s.Digest(), s.Copy())
		}
	}
}

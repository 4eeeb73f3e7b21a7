package store

import (
	"encoding/hex"
	"strconv"
	"strings"
	"testing"

	"hawthorn/api"
)

// row makes records that look like chance, one behind the other: few keys, so that they come again; ticks that go back at times; calls that come again, or too late.
type row struct {
	x                     uint64
	keys, value, sessions uint64 // how many there are; of values, how long they are
	seq, now              uint64
	nums                  map[uint64]uint64 // of each session the greatest number
	versions              map[string]uint64 // of each key the last one that was told
}

func newRow(x, keys, value, sessions uint64) *row {
	return &row{x: x, keys: keys, value: value, sessions: sessions, nums: map[uint64]uint64{}, versions: map[string]uint64{}}
}

// next is the next record.
func (r *row) next() api.Record {
	r.x = r.x*6364136223846793005 + 1442695040888963407
	r.seq++
	r.now += r.x >> 16 % 3
	now := r.now
	if r.x>>8%8 == 0 {
		now -= min(now, r.x>>12%8)
	}
	session := 10 + r.x>>35%r.sessions
	return api.Record{Seq: r.seq, Now: now, Session: session, Num: r.num(session), Op: r.op()}
}

// num is a number for a session: mostly the next one, at times the last one again, one of old, or one that leaves some out.
func (r *row) num(session uint64) uint64 {
	n := r.nums[session]
	switch r.x >> 54 % 16 {
	case 0:
		return n
	case 1:
		return max(n, 1) - 1
	case 2:
		n++
	}
	r.nums[session] = n + 1
	return n + 1
}

// op is an operation.
func (r *row) op() api.Op {
	key := "k" + strconv.FormatUint(r.x>>40%r.keys, 10)
	value := strings.Repeat("v", int(r.x>>30%r.value))
	ttl := uint64(0)
	if r.x>>28%4 == 0 {
		ttl = r.x >> 20 % 50
	}
	switch kind := r.x >> 60; {
	case kind < 6:
		return get(key)
	case kind < 12:
		return put(key, value, ttl)
	case kind < 13:
		return del(key)
	case kind < 15:
		version := max(r.versions[key], 1)
		if r.x>>26%4 == 0 {
			version++
		}
		return cas(key, value, ttl, version)
	}
	return mark
}

// told notes what was told of a record.
func (r *row) told(x api.Record, reply api.Reply) {
	if reply.E == api.OK && (x.Op.Kind == api.OpPut || x.Op.Kind == api.OpCas) {
		r.versions[x.Op.Key] = reply.Version
	}
}

// sums is a cache, a row of records, and the beginnings of the cache's digests behind 100, 1000 and 4000 of them, which another program worked out, made from the chapters.
type sums struct {
	c                         api.Config
	x, keys, value, ofSession uint64
	want                      [3]string
}

func knownSums() []sums {
	return []sums{
		{api.Config{Policy: 1, Entries: 1, Bytes: 20, Seed: 0}, 1, 3, 16, 2, [3]string{"c54642866385e6af", "4dbbaf5d9ecbce82", "eda0c80a3184a69c"}},
		{api.Config{Policy: 2, Entries: 1, Bytes: 20, Seed: 5}, 2, 3, 16, 2, [3]string{"ccd8a75e6a3af190", "5bea58d84aa03066", "4af36f6262e675bc"}},
		{api.Config{Policy: 1, Entries: 4, Bytes: 14, Seed: 3}, 9, 10, 30, 5, [3]string{"19d751f62e49fe74", "8c3c21c7a8fbc9a7", "bbd718e9789890b0"}},
		{api.Config{Policy: 2, Entries: 6, Bytes: 17, Seed: 3}, 10, 10, 30, 5, [3]string{"03781bc4d79c4fd4", "0dcd3cd567e17e51", "8b9af365f65df455"}},
		{api.Config{Policy: 1, Entries: 5, Bytes: 60, Seed: 9}, 3, 12, 30, 5, [3]string{"b986559c499a719e", "20beaeaa1f4549b0", "5d7fdf507cfb9085"}},
		{api.Config{Policy: 2, Entries: 9, Bytes: 200, Seed: 7}, 4, 20, 60, 5, [3]string{"8ac76aa407e70db8", "702095fb79a97a3a", "657d214ff9b81519"}},
		{api.Config{Policy: 1, Entries: 64, Bytes: 1048576, Seed: 1}, 5, 150, 40, 80, [3]string{"88c0ad3db7f8de78", "ca2f6bf316e9e917", "e24cf4a783dae711"}},
		{api.Config{Policy: 2, Entries: 64, Bytes: 1000, Seed: 18446744073709551615}, 6, 150, 40, 80, [3]string{"d2910766ee7a02af", "f96cbe109a39488c", "4d518afee1550d68"}},
		{api.Config{Policy: 1, Entries: 1000, Bytes: 1048576, Seed: 1}, 7, 1500, 40, 9, [3]string{"665bb28485f31746", "b1359257d2fbb26f", "ede393005c8f7adc"}},
		{api.Config{Policy: 2, Entries: 1000, Bytes: 1048576, Seed: 12345}, 8, 1500, 40, 9, [3]string{"13c144873fe8713a", "9b124cd93c6ff75c", "471395686bb32c5e"}},
	}
}

func TestLongRowsAgainstSumsOfAnotherProgram(t *testing.T) {
	for _, x := range knownSums() {
		s, e := New(x.c)
		if e != api.OK {
			t.Fatal(x.c, e)
		}
		r := newRow(x.x, x.keys, x.value, x.ofSession)
		at := 0
		for i := range 4000 {
			rec := r.next()
			reply, e := s.Apply(rec)
			if e != api.OK {
				t.Fatalf("%v: record %d: %d", x.c, i+1, e)
			}
			r.told(rec, reply)
			if i+1 == 100 || i+1 == 1000 || i+1 == 4000 {
				if got := hex.EncodeToString([]byte(s.Digest()))[:16]; got != x.want[at] {
					t.Errorf("%v: behind %d records: %s, not %s", x.c, i+1, got, x.want[at])
				}
				at++
			}
		}
	}
}

// mirrors is caches to which the same records come: the first one goes on, the second one lost its memory now and then and got it anew, the third one is a copy of itself now and then, the fourth one gets now and then what is not to be done.
type mirrors [4]*Store

func newMirrors(t *testing.T, c api.Config) *mirrors {
	var m mirrors
	for i := range m {
		s, e := New(c)
		if e != api.OK {
			t.Fatal(e)
		}
		m[i] = s
	}
	return &m
}

// apply does a record in all of them: what was told, by all the same.
func (m *mirrors) apply(t *testing.T, x api.Record) api.Reply {
	t.Helper()
	var first api.Reply
	for i, s := range m {
		reply, e := s.Apply(x)
		if i == 0 {
			first = reply
		}
		if e != api.OK || reply != first {
			t.Fatalf("record %d: cache %d tells %v, %d, not %v", x.Seq, i, reply, e, first)
		}
	}
	return first
}

// disturb lets happen what is to be of no weight.
func (m *mirrors) disturb(t *testing.T, x api.Record) {
	t.Helper()
	if x.Seq%17 == 0 {
		s, e := Import(m[0].Export())
		if e != api.OK {
			t.Fatalf("behind record %d: %d", x.Seq, e)
		}
		m[1] = s
	}
	if x.Seq%13 == 0 {
		m[2] = m[2].Copy()
	}
	if x.Seq%7 == 0 {
		_, e := m[3].Apply(x)
		other := x
		other.Seq, other.Now, other.Op = x.Seq+1, 1<<40, api.Op{}
		_, f := m[3].Apply(other)
		if e != api.ErrSeq || f != api.ErrInput {
			t.Fatalf("record %d, once more: %d, %d", x.Seq, e, f)
		}
		m[3].Entries()
		m[3].Told(x.Session)
	}
}

func TestMirrorsAreTheSame(t *testing.T) {
	for _, x := range knownSums() {
		if x.c.Entries > 100 {
			continue
		}
		m := newMirrors(t, x.c)
		r := newRow(x.x+100, x.keys, x.value, x.ofSession)
		for range 1500 {
			rec := r.next()
			reply := m.apply(t, rec)
			r.told(rec, reply)
			want := m[0].Digest()
			for i, s := range m {
				if s.Digest() != want || s.Tally() != m[0].Tally() || s.Now() != m[0].Now() {
					t.Fatalf("%v: behind record %d cache %d is another one", x.c, rec.Seq, i)
				}
			}
			wantWithin(t, m[0])
			m.disturb(t, rec)
		}
	}
}

// wantWithin holds a cache against what it may keep, and entries against what is told of them.
func wantWithin(t *testing.T, s *Store) {
	t.Helper()
	l, bytes := s.Entries(), 0
	for i, x := range l {
		bytes += len(x.Key) + len(x.Value)
		if i > 0 && l[i-1].Key >= x.Key || !s.policy.Has(x.Key) || x.End != 0 && x.End <= s.Now() || x.Version == 0 {
			t.Fatalf("at %d: %v", s.Now(), x)
		}
	}
	if c := s.Config(); len(l) > c.Entries || bytes > c.Bytes || len(l) != s.policy.Len() || len(s.sessions) > api.MostSessions {
		t.Fatalf("%d entries, %d bytes, %d keys, %d sessions", len(l), bytes, s.policy.Len(), len(s.sessions))
	}
}

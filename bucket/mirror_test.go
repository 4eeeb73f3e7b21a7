package bucket

import (
	"slices"
	"strconv"
	"strings"
	"testing"

	"hawthorn/api"
	"hawthorn/store"
)

// chance goes by a number that looks like chance.
type chance struct{ x uint64 }

func (c *chance) of(n uint64) uint64 {
	c.x = c.x*6364136223846793005 + 1442695040888963407
	return c.x >> 33 % n
}

// record is the seq-th one of a row: few keys, so that they come again, go, and end.
func record(c *chance, seq uint64) api.Record {
	o := api.Op{Kind: api.OpGet, Key: "k" + strconv.FormatUint(c.of(60), 10)}
	switch c.of(4) {
	case 0, 1:
		o.Kind = api.OpPut
		o.Value = strings.Repeat(string(rune('a'+c.of(26))), int(c.of(200)))
		o.TTL = c.of(60)
	case 2:
		o.Kind = api.OpDel
	}
	return api.Record{Seq: seq, Now: seq / 3, Session: 10 + c.of(4), Num: seq, Op: o}
}

// others is the buckets of the entries that just one of two caches has.
func others(a, b []api.Entry) []int {
	var l []int
	for _, x := range slices.Concat(a, b) {
		if !slices.Contains(a, x) || !slices.Contains(b, x) {
			l = append(l, Of(x.Key))
		}
	}
	slices.Sort(l)
	return slices.Compact(l)
}

// apply does a record with a cache.
func apply(t *testing.T, s *store.Store, x api.Record) {
	t.Helper()
	if _, e := s.Apply(x); e != api.OK {
		t.Fatalf("record %d: %d", x.Seq, e)
	}
}

// T2, as far as this layer goes: mirrors have the same sums, and of caches that are none the sums tell where they are not the same.
func TestSumsHoldCachesAgainstEachOther(t *testing.T) {
	for _, kind := range []int{api.PolicyArc, api.PolicyTiny} {
		c := &chance{x: uint64(kind)}
		one, e := store.New(api.Config{Policy: kind, Entries: 20, Bytes: 3000, Seed: 7})
		if e != api.OK {
			t.Fatal(e)
		}
		other, behind := one.Copy(), one.Copy()
		var late []api.Record
		differed := 0
		for seq := range uint64(1500) {
			x := record(c, seq+1)
			apply(t, one, x)
			apply(t, other, x)
			late = append(late, x)
			if len(late) > 5 {
				apply(t, behind, late[0])
				late = late[1:]
			}
			sums := Sums(one.Entries())
			wantDiffer(t, "mirrors", sums, Sums(other.Entries()))
			want := others(one.Entries(), behind.Entries())
			wantDiffer(t, "one that is behind", sums, Sums(behind.Entries()), want...)
			differed += len(want)
		}
		if differed < 1000 {
			t.Errorf("only %d sums were others", differed)
		}
	}
}

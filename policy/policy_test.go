package policy

import (
	"slices"
	"strconv"
	"strings"
	"testing"

	"hawthorn/api"
	"hawthorn/arc"
	"hawthorn/tiny"
	"hawthorn/wire"
)

const (
	greatest = 1<<63 - 1
	smallest = -1 << 63
	most     = 1<<64 - 1
)

func kinds() []int { return []int{api.PolicyArc, api.PolicyTiny} }

func fresh(t *testing.T, kind, c int, seed uint64) *Policy {
	t.Helper()
	p, e := New(kind, c, seed)
	if e != api.OK || p == nil {
		t.Fatalf("New(%d, %d, %d) is %v, %d", kind, c, seed, p, e)
	}
	return p
}

// own is the policy of a kind itself: what it answers a Policy of that kind must answer.
func own(t *testing.T, kind, c int, seed uint64) keeper {
	t.Helper()
	if kind == api.PolicyArc {
		a, e := arc.New(c)
		if e != api.OK {
			t.Fatal(e)
		}
		return a
	}
	y, e := tiny.New(c, seed)
	if e != api.OK {
		t.Fatal(e)
	}
	return y
}

// ownMiss is Miss done to the policy of a kind itself.
func ownMiss(k keeper, key string) {
	if y, ok := k.(*tiny.Tiny); ok && !y.Has(key) {
		y.Miss(key)
	}
}

// wantBytes holds all of a policy against its kind and the kind's own bytes.
func wantBytes(t *testing.T, name string, p *Policy, k keeper) {
	t.Helper()
	if got, want := p.Export(), wire.Num(uint64(p.Kind()))+k.Export(); got != want {
		t.Fatalf("%s: the bytes are %x, not %x", name, got, want)
	}
}

func TestKindsByTheirNumbers(t *testing.T) {
	if api.PolicyArc != 1 || api.PolicyTiny != 2 {
		t.Error(api.PolicyArc, api.PolicyTiny)
	}
	for _, kind := range kinds() {
		if p := fresh(t, kind, 3, 7); p.Kind() != kind || p.Len() != 0 {
			t.Errorf("of kind %d: kind %d, %d keys", kind, p.Kind(), p.Len())
		}
	}
}

func TestNewOfWhatMayNotBe(t *testing.T) {
	for _, x := range []struct {
		kind, c int
		want    api.Errno
	}{
		{1, 1, api.OK}, {1, 1000, api.OK}, {2, 1, api.OK}, {2, 1000, api.OK},
		{3, 5, api.ErrInput}, {0, 5, api.ErrInput}, {-1, 5, api.ErrInput}, {257, 5, api.ErrInput}, {greatest, 5, api.ErrInput}, {smallest, 5, api.ErrInput},
		{1, 0, api.ErrInput}, {1, -1, api.ErrInput}, {1, 1001, api.ErrInput}, {1, greatest, api.ErrInput}, {1, smallest, api.ErrInput},
		{2, 0, api.ErrInput}, {2, -1, api.ErrInput}, {2, 1001, api.ErrInput}, {2, greatest, api.ErrInput}, {2, smallest, api.ErrInput},
		{0, 0, api.ErrInput}, {3, 1001, api.ErrInput},
	} {
		for _, seed := range []uint64{0, 1, most} {
			p, e := New(x.kind, x.c, seed)
			if e != x.want || (p != nil) != (e == api.OK) {
				t.Errorf("New(%d, %d, %d) is %v, %d, not %d", x.kind, x.c, seed, p, e, x.want)
			}
		}
	}
}

func TestTheSeedIsTinysAlone(t *testing.T) {
	for _, seed := range []uint64{0, 1, 7, 1 << 63, most} {
		for _, kind := range kinds() {
			p, k := fresh(t, kind, 3, seed), own(t, kind, 3, seed)
			p.Insert("a")
			k.Insert("a")
			wantBytes(t, "kind "+strconv.Itoa(kind)+", seed "+strconv.FormatUint(seed, 10), p, k)
		}
	}
}

// step is one call of a walk.
type step struct {
	call string
	key  string
}

// walk is a row of calls that look like chance: few keys, so that they come again, and now and then one that is too long, or empty.
func walk(n int) []step {
	calls := []string{"Has", "Touch", "Miss", "Insert", "Insert", "Insert", "Remove", "Evict", "Miss", "Touch"}
	l := make([]step, n)
	x := uint64(n)
	for i := range l {
		x = x*6364136223846793005 + 1442695040888963407
		key := "k" + strconv.Itoa(int(x>>40%12))
		switch x >> 50 % 40 {
		case 0:
			key = ""
		case 1:
			key = strings.Repeat("k", api.MostKey)
		case 2:
			key = strings.Repeat("k", api.MostKey+1)
		}
		l[i] = step{calls[x>>33%uint64(len(calls))], key}
	}
	return l
}

// do does a call: what it answered.
func (s step) do(k keeper, miss func(key string)) (keys []string, yes bool) {
	switch s.call {
	case "Has":
		return nil, k.Has(s.key)
	case "Touch":
		return nil, k.Touch(s.key)
	case "Miss":
		miss(s.key)
	case "Insert":
		return k.Insert(s.key), false
	case "Remove":
		return nil, k.Remove(s.key)
	case "Evict":
		key, ok := k.Evict()
		return []string{key}, ok
	}
	return nil, false
}

func TestAllCallsAreThoseOfTheKind(t *testing.T) {
	for _, kind := range kinds() {
		for _, c := range []int{1, 2, 5, 16} {
			p, k := fresh(t, kind, c, 9), own(t, kind, c, 9)
			for i, s := range walk(3000) {
				name := "kind " + strconv.Itoa(kind) + ", c " + strconv.Itoa(c) + ", step " + strconv.Itoa(i) + ": " + s.call + " " + s.key
				gone, yes := s.do(p, p.Miss)
				wantGone, wantYes := s.do(k, func(key string) { ownMiss(k, key) })
				if !slices.Equal(gone, wantGone) || yes != wantYes {
					t.Fatalf("%s: %q, %v, not %q, %v", name, gone, yes, wantGone, wantYes)
				}
				if p.Len() != k.Len() || p.Has(s.key) != k.Has(s.key) || p.Kind() != kind {
					t.Fatalf("%s: %d are kept, not %d", name, p.Len(), k.Len())
				}
				wantBytes(t, name, p, k)
			}
		}
	}
}

// The same calls tell the two kinds apart: arc keeps what was asked for again, and remembers what went; tiny holds the window's last one against another one.
func TestTheKindsKeepOtherKeys(t *testing.T) {
	for _, x := range []struct {
		kind int
		gone string
		kept string
	}{
		{api.PolicyArc, "a", "bc"},
		{api.PolicyTiny, "b", "ac"},
	} {
		p := fresh(t, x.kind, 2, 0)
		p.Insert("a")
		p.Insert("b")
		gone := p.Insert("c")
		if len(gone) != 1 || gone[0] != x.gone || p.Len() != 2 {
			t.Errorf("kind %d: %q go, %d are kept", x.kind, gone, p.Len())
		}
		for _, key := range []string{"a", "b", "c"} {
			if p.Has(key) != strings.Contains(x.kept, key) {
				t.Errorf("kind %d: whether %s is kept: %v", x.kind, key, p.Has(key))
			}
		}
	}
}

func TestMissIsTinysOfKeysThatAreNotKept(t *testing.T) {
	long := strings.Repeat("k", api.MostKey)
	for _, x := range []struct {
		name, key string
		counts    bool
	}{
		{"one that is not kept", "b", true},
		{"one that went", "gone", true},
		{"an empty one", "", true},
		{"the longest", long, true},
		{"one that is too long", long + "k", false},
		{"one that is kept", "a", false},
		{"one that is kept and was asked for", "c", false},
	} {
		for _, kind := range kinds() {
			p := fresh(t, kind, 5, 9)
			for _, key := range []string{"a", "c", "gone"} {
				p.Insert(key)
			}
			p.Touch("c")
			p.Remove("gone")
			before := p.Export()
			for times := range 3 {
				p.Miss(x.key)
				if changes := p.Export() != before; changes != (x.counts && kind == api.PolicyTiny) {
					t.Errorf("%s, kind %d, miss %d: whether it changes: %v", x.name, kind, times, changes)
				}
			}
			if p.Len() != 2 || p.Has("b") || p.Has("gone") {
				t.Errorf("%s, kind %d: %d are kept", x.name, kind, p.Len())
			}
		}
	}
}

// A key that was missed often enough is kept ahead of one that was not: so Miss is not just noted anywhere.
func TestMissTellsWhoIsKept(t *testing.T) {
	p := fresh(t, api.PolicyTiny, 2, 0)
	for range 3 {
		p.Miss("b")
	}
	p.Insert("a")
	p.Insert("b")
	if gone := p.Insert("c"); len(gone) != 1 || gone[0] != "a" {
		t.Errorf("%q go", gone)
	}
}

func TestTheSameCallsKeepTheSame(t *testing.T) {
	for _, kind := range kinds() {
		one, other := fresh(t, kind, 7, 3), fresh(t, kind, 7, 3)
		for i, s := range walk(2000) {
			s.do(one, one.Miss)
			s.do(other, other.Miss)
			if i%97 == 0 { // the other one lost its memory, and got it anew
				same, e := Import(one.Export())
				if e != api.OK {
					t.Fatal(e)
				}
				other = same
			}
			if one.Export() != other.Export() || one.Len() != other.Len() {
				t.Fatalf("kind %d: behind step %d they are not the same", kind, i)
			}
		}
	}
}

func TestNilHasNothing(t *testing.T) {
	for _, p := range []*Policy{nil, {}} {
		p.Miss("a")
		key, ok := p.Evict()
		if p.Has("a") || p.Touch("a") || p.Remove("a") || key != "" || ok {
			t.Errorf("%v: a key is kept; %q, %v goes", p, key, ok)
		}
		if p.Kind() != 0 || p.Len() != 0 || len(p.Insert("a")) != 0 || p.Export() != "" || p.Len() != 0 {
			t.Errorf("%v: kind %d, %d keys, bytes %x", p, p.Kind(), p.Len(), p.Export())
		}
	}
}

func TestWhatGoesIsTheCallersOwn(t *testing.T) {
	for _, kind := range kinds() {
		p := fresh(t, kind, 1, 0)
		p.Insert("a")
		gone := p.Insert("b")
		before := p.Export()
		if len(gone) != 1 {
			t.Fatalf("kind %d: %q go", kind, gone)
		}
		gone[0] = "x"
		if p.Export() != before || p.Has("x") {
			t.Errorf("kind %d: it changes", kind)
		}
	}
}

package table

import (
	"math"
	"slices"
	"strconv"
	"strings"
	"testing"

	"hawthorn/api"
)

// made is a new table with entries.
func made(l ...api.Entry) *Table {
	t := New()
	for _, x := range l {
		t.Put(x)
	}
	return t
}

// wantEntries holds all that is told of a table against its entries, by their keys.
func wantEntries(t *testing.T, name string, got *Table, want ...api.Entry) {
	t.Helper()
	var keys []string
	bytes := 0
	for _, x := range want {
		keys = append(keys, x.Key)
		bytes += len(x.Key) + len(x.Value)
		if y, ok := got.Get(x.Key); y != x || !ok {
			t.Fatalf("%s: %.20q is %.40v, %v, not %.40v", name, x.Key, y, ok, x)
		}
	}
	if got.Len() != len(want) || got.Bytes() != bytes || !slices.Equal(got.Keys(), keys) {
		t.Fatalf("%s: %d entries, %d bytes, keys %.20q, not %d, %d, %.20q", name, got.Len(), got.Bytes(), got.Keys(), len(want), bytes, keys)
	}
}

// wantNone holds a key against a table that does not have it.
func wantNone(t *testing.T, name string, got *Table, key string) {
	t.Helper()
	if x, ok := got.Get(key); x != (api.Entry{}) || ok {
		t.Errorf("%s: %.20q is %v, %v", name, key, x, ok)
	}
}

func TestNewHasNothing(t *testing.T) {
	got := New()
	if got == nil {
		t.Fatal("there is none")
	}
	wantEntries(t, "new", got)
	for _, key := range []string{"", "a", strings.Repeat("k", 100)} {
		wantNone(t, "new", got, key)
		if got.Drop(key) {
			t.Errorf("%.20q was there", key)
		}
	}
	if l := got.Ended(math.MaxUint64); len(l) != 0 {
		t.Errorf("ended: %q", l)
	}
}

func TestPutInThePlaceOfAnother(t *testing.T) {
	got := New()
	other := api.Entry{Key: "b", Value: "other", Version: 9, End: 4}
	got.Put(other)
	for _, x := range []api.Entry{
		{Key: "a", Value: "x", Version: 1, End: 7},
		{Key: "a", Value: "longer", Version: 2, End: 300},
		{Key: "a", Value: "xy", Version: 2},
		{Key: "a"},
		{Key: "a", Value: "xyz", Version: math.MaxUint64, End: math.MaxUint64},
		{Key: "a", Value: "xyz", Version: math.MaxUint64, End: math.MaxUint64}, // once more the same
		{Key: "a", Value: "xyz", Version: 1, End: 1},
	} {
		got.Put(x)
		wantEntries(t, "put", got, x, other)
	}
	if l := got.Ended(1); !slices.Equal(l, []string{"a"}) {
		t.Errorf("ended: %q", l)
	}
}

func TestDropTellsWhetherItWasThere(t *testing.T) {
	a, b, c := api.Entry{Key: "a", Value: "x"}, api.Entry{Key: "b", Value: "yy", Version: 2}, api.Entry{Key: "c", Value: "zzz", End: 5}
	got := made(c, a, b)
	for _, x := range []struct {
		key  string
		was  bool
		want []api.Entry
	}{
		{"d", false, []api.Entry{a, b, c}},
		{"", false, []api.Entry{a, b, c}},
		{"aa", false, []api.Entry{a, b, c}},
		{"b", true, []api.Entry{a, c}},
		{"b", false, []api.Entry{a, c}},
		{"c", true, []api.Entry{a}},
		{"a", true, nil},
		{"a", false, nil},
	} {
		if was := got.Drop(x.key); was != x.was {
			t.Errorf("Drop(%q) is %v", x.key, was)
		}
		wantEntries(t, "drop "+x.key, got, x.want...)
		wantNone(t, "drop "+x.key, got, x.key)
	}
	if l := got.Ended(5); len(l) != 0 {
		t.Errorf("ended: %q", l)
	}
	got.Put(b)
	wantEntries(t, "put again", got, b)
}

// Keys are bytes, of whatever kind, and none too: shorter ones stand ahead only where the others begin with them.
func TestKeysRise(t *testing.T) {
	keys := []string{"", "\x00", "\x00\x00", " ", "10", "2", "B", "a", "aa", "ab", "b", "z", "\x7f", "\x80", "é", "\xff", "\xff\x00"}
	for _, order := range [][]string{keys, reversed(keys), append(slices.Clone(keys[7:]), keys[:7]...)} {
		got := New()
		for _, key := range order {
			got.Put(api.Entry{Key: key, Value: "v", Version: 1, End: 3})
		}
		if !slices.Equal(got.Keys(), keys) {
			t.Errorf("keys are %q", got.Keys())
		}
		if !slices.Equal(got.Ended(3), keys) {
			t.Errorf("ended are %q", got.Ended(3))
		}
	}
}

// reversed is a list from its end on.
func reversed(l []string) []string {
	r := slices.Clone(l)
	slices.Reverse(r)
	return r
}

func TestBytesAreThoseOfKeysAndValues(t *testing.T) {
	got := New()
	for _, x := range []struct {
		x    api.Entry
		want int
	}{
		{api.Entry{}, 0},
		{api.Entry{Value: "abc"}, 3},
		{api.Entry{Key: "k", Version: math.MaxUint64, End: math.MaxUint64}, 4}, // not those of its numbers
		{api.Entry{Key: "é", Value: "é"}, 8},                                   // bytes, not runes
		{api.Entry{Key: strings.Repeat("k", 64), Value: strings.Repeat("v", 4096)}, 4168},
		{api.Entry{Key: "k", Value: "v"}, 4169},
		{api.Entry{Value: "a"}, 4167},
	} {
		got.Put(x.x)
		if got.Bytes() != x.want {
			t.Errorf("with %.20v: %d bytes, not %d", x.x, got.Bytes(), x.want)
		}
	}
	for _, x := range []struct {
		key  string
		want int
	}{{"é", 4163}, {"é", 4163}, {strings.Repeat("k", 64), 3}, {"", 2}, {"k", 0}} {
		if got.Drop(x.key); got.Bytes() != x.want {
			t.Errorf("without %.20q: %d bytes, not %d", x.key, got.Bytes(), x.want)
		}
	}
}

func TestEndedAreThoseNotAboveTheTick(t *testing.T) {
	got := made(
		api.Entry{Key: "never"},
		api.Entry{Key: "z one", End: 1},
		api.Entry{Key: "six", End: 6},
		api.Entry{Key: "seven", End: 7},
		api.Entry{Key: "and seven", End: 7},
		api.Entry{Key: "eight", End: 8},
		api.Entry{Key: "half", End: 1 << 63},
		api.Entry{Key: "last but one", End: math.MaxUint64 - 1},
		api.Entry{Key: "last", End: math.MaxUint64},
	)
	before := got.Export()
	for _, x := range []struct {
		now  uint64
		want string
	}{
		{0, ""},
		{1, "z one"},
		{5, "z one"},
		{6, "six,z one"},
		{7, "and seven,seven,six,z one"},
		{8, "and seven,eight,seven,six,z one"},
		{1<<63 - 1, "and seven,eight,seven,six,z one"},
		{1 << 63, "and seven,eight,half,seven,six,z one"},
		{math.MaxUint64 - 1, "and seven,eight,half,last but one,seven,six,z one"},
		{math.MaxUint64, "and seven,eight,half,last,last but one,seven,six,z one"},
	} {
		if l := strings.Join(got.Ended(x.now), ","); l != x.want {
			t.Errorf("at %d: %s, not %s", x.now, l, x.want)
		}
	}
	if got.Export() != before || got.Len() != 9 {
		t.Error("who asks takes something away")
	}
}

// What was told is the asker's own, and what was handed in is no longer of weight.
func TestWhatIsToldIsTheAskersOwn(t *testing.T) {
	x := api.Entry{Key: "a", Value: "x", Version: 1, End: 2}
	got := made(x, api.Entry{Key: "b", End: 2})
	before := got.Export()
	x.Value, x.End = "y", 9
	for _, l := range [][]string{got.Keys(), got.Ended(2)} {
		if len(l) != 2 {
			t.Fatalf("%q", l)
		}
		l[0], l[1] = "z", "z"
		_ = append(l[:1], "z", "z")
	}
	y, _ := got.Get("a")
	y.Value, y.Version = "z", 9
	if got.Export() != before || got.Bytes() != 3 {
		t.Errorf("%q is %q now", before, got.Export())
	}
	keys, ended := got.Keys(), got.Ended(2)
	got.Put(api.Entry{Key: "0", End: 1})
	got.Drop("a")
	if want := []string{"a", "b"}; !slices.Equal(keys, want) || !slices.Equal(ended, want) {
		t.Errorf("what was told is %q, %q now", keys, ended)
	}
}

func TestTwoShareNothing(t *testing.T) {
	a, b := New(), New()
	a.Put(api.Entry{Key: "a", Value: "x"})
	wantEntries(t, "the other one", b)
	b.Put(api.Entry{Key: "b", Value: "yy"})
	a.Drop("b")
	wantEntries(t, "the one", a, api.Entry{Key: "a", Value: "x"})
	wantEntries(t, "the other one", b, api.Entry{Key: "b", Value: "yy"})
}

// plain is entries that are kept in the plainest way, by their keys: to hold a long walk against.
type plain []api.Entry

func (p *plain) drop(key string) bool {
	n := len(*p)
	*p = slices.DeleteFunc(*p, func(x api.Entry) bool { return x.Key == key })
	return len(*p) < n
}

func (p *plain) put(x api.Entry) {
	p.drop(x.Key)
	*p = append(*p, x)
	slices.SortFunc(*p, func(a, b api.Entry) int { return strings.Compare(a.Key, b.Key) })
}

func (p *plain) ended(now uint64) []string {
	var keys []string
	for _, x := range *p {
		if x.End != 0 && x.End <= now {
			keys = append(keys, x.Key)
		}
	}
	return keys
}

func TestALongWalk(t *testing.T) {
	for _, keys := range []int{1, 2, 9, 60} {
		got, p := New(), &plain{}
		chance := uint64(keys)
		for step := range 3000 {
			chance = chance*6364136223846793005 + 1442695040888963407
			name := "step " + strconv.Itoa(step)
			key, now := "k"+strconv.Itoa(int(chance>>40)%keys), uint64(step)
			switch chance >> 61 {
			case 0, 1, 2:
				if was := p.drop(key); got.Drop(key) != was {
					t.Fatalf("%s: dropped, not %v", name, was)
				}
			case 3:
				if l := got.Ended(now); !slices.Equal(l, p.ended(now)) {
					t.Fatalf("%s: ended are %q, not %q", name, l, p.ended(now))
				}
			default:
				x := api.Entry{Key: key, Value: strings.Repeat("v", int(chance>>50)%20), Version: now + 1, End: chance >> 45 % 2 * (now + chance>>30%200)}
				got.Put(x)
				p.put(x)
			}
			wantEntries(t, name, got, *p...)
			if step%97 == 0 {
				got = imported(t, got)
			}
		}
	}
}

// More entries, and longer ones, than bytes may tell of: the chapter sets calls no limit.
func TestPutHasNoLimits(t *testing.T) {
	got := New()
	for i := range 3 * api.MostEntries {
		got.Put(api.Entry{Key: strconv.Itoa(10000 + i), Value: "v", End: uint64(i)})
	}
	long := api.Entry{Key: strings.Repeat("k", 1<<17), Value: strings.Repeat("v", 1<<17)}
	got.Put(long)
	if got.Len() != 3001 || got.Bytes() != 18000+1<<18 || len(got.Ended(2000)) != 2000 || got.Keys()[3000] != long.Key {
		t.Error(got.Len(), got.Bytes(), len(got.Ended(2000)))
	}
	if x, e := Import(got.Export()); x != nil || e != api.ErrOver {
		t.Error("its bytes are read:", e)
	}
}

func TestNilHasNothing(t *testing.T) {
	var none *Table
	none.Put(api.Entry{Key: "a", Value: "x", End: 1})
	wantEntries(t, "nil", none)
	wantNone(t, "nil", none, "a")
	wantNone(t, "nil", none, "")
	if none.Drop("a") || none.Drop("") || len(none.Ended(math.MaxUint64)) != 0 || none.Export() != "" {
		t.Errorf("%q, %q", none.Ended(math.MaxUint64), none.Export())
	}
}

// One that New did not make has no entries, and takes them as any other.
func TestOneThatNewDidNotMake(t *testing.T) {
	var got Table
	wantEntries(t, "made without New", &got)
	if got.Drop("a") || len(got.Ended(math.MaxUint64)) != 0 || got.Export() != New().Export() {
		t.Errorf("%q, %q", got.Ended(math.MaxUint64), got.Export())
	}
	x := api.Entry{Key: "a", Value: "x", Version: 1, End: 1}
	got.Put(x)
	wantEntries(t, "put", &got, x)
}

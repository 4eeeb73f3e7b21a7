package ring

import (
	"encoding/hex"
	"slices"
	"strconv"
	"strings"
	"testing"

	"hawthorn/api"
	"hawthorn/wire"
)

const (
	greatest = 1<<63 - 1
	least    = -1 << 63
)

// made is new lists, with their keys from the front on.
func made(t *testing.T, places int, lists ...string) *Rings {
	t.Helper()
	r, e := New(len(lists), places)
	if e != api.OK || r == nil {
		t.Fatalf("New(%d, %d) is %v, %d", len(lists), places, r, e)
	}
	for list, keys := range lists {
		for _, key := range slices.Backward(strings.Fields(keys)) {
			if !r.Front(list, key) {
				t.Fatalf("%q has no place in list %d", key, list)
			}
		}
	}
	return r
}

// bytesOf is the bytes of base 16, blanks aside.
func bytesOf(t *testing.T, text string) string {
	t.Helper()
	b, err := hex.DecodeString(strings.ReplaceAll(text, " ", ""))
	if err != nil {
		t.Fatal(err)
	}
	return string(b)
}

// keysOf is a list's keys, joined by blanks.
func keysOf(r *Rings, list int) string {
	return strings.Join(slices.Collect(r.Keys(list)), " ")
}

// wantLists holds all that is told of lists against their keys from the front on.
func wantLists(t *testing.T, name string, r *Rings, places int, lists ...string) {
	t.Helper()
	if r.Lists() != len(lists) {
		t.Fatalf("%s: %d lists, not %d", name, r.Lists(), len(lists))
	}
	free := places
	for list, want := range lists {
		keys := strings.Fields(want)
		free -= len(keys)
		if got := keysOf(r, list); got != want || r.Len(list) != len(keys) {
			t.Errorf("%s: list %d has %d keys: %s; not %s", name, list, r.Len(list), got, want)
		}
		wantBack(t, name, r, list, keys)
		for _, key := range keys {
			if in, ok := r.In(key); in != list || !ok {
				t.Errorf("%s: %q is in list %d, %v, not %d", name, key, in, ok, list)
			}
		}
	}
	if r.Free() != free {
		t.Errorf("%s: %d places are left, not %d", name, r.Free(), free)
	}
}

func wantBack(t *testing.T, name string, r *Rings, list int, keys []string) {
	t.Helper()
	want, some := "", len(keys) > 0
	if some {
		want = keys[len(keys)-1]
	}
	if got, ok := r.Back(list); got != want || ok != some {
		t.Errorf("%s: the last key of list %d is %q, %v, not %q", name, list, got, ok, want)
	}
}

func wantIn(t *testing.T, r *Rings, key string, want int, is bool) {
	t.Helper()
	if in, ok := r.In(key); in != want || ok != is {
		t.Errorf("%q is in list %d, %v, not in %d, %v", key, in, ok, want, is)
	}
}

func TestNewOfSoManyListsAndPlaces(t *testing.T) {
	for _, lists := range []int{1, 2, api.MostRings} {
		for _, places := range []int{0, 1, 100, api.MostSlots} {
			r, e := New(lists, places)
			if e != api.OK {
				t.Fatalf("New(%d, %d): %d", lists, places, e)
			}
			wantLists(t, "new", r, places, make([]string, lists)...)
		}
	}
	for _, x := range [][2]int{
		{0, 5}, {-1, 5}, {least, 5}, {api.MostRings + 1, 5}, {greatest, 5},
		{2, -1}, {2, least}, {2, api.MostSlots + 1}, {2, greatest}, {0, -1}, {9, 4097},
	} {
		if r, e := New(x[0], x[1]); r != nil || e != api.ErrInput {
			t.Errorf("New(%d, %d) is %v, %d", x[0], x[1], r, e)
		}
	}
}

func TestFrontPutsAtTheFront(t *testing.T) {
	r := made(t, 3, "")
	for _, x := range []struct{ key, want string }{
		{"a", "a"}, {"b", "b a"}, {"a", "a b"}, {"a", "a b"}, {"c", "c a b"}, {"a", "a c b"}, {"b", "b a c"}, {"c", "c b a"},
	} {
		if !r.Front(0, x.key) {
			t.Errorf("%q has no place", x.key)
		}
		wantLists(t, "front "+x.key, r, 3, x.want)
	}
}

func TestFrontTakesAKeyFromItsList(t *testing.T) {
	r := made(t, 6, "a b c", "d e", "")
	for _, x := range []struct {
		list  int
		key   string
		lists [3]string
	}{
		{1, "b", [3]string{"a c", "b d e", ""}}, // from the middle
		{2, "a", [3]string{"c", "b d e", "a"}},  // from the front
		{0, "e", [3]string{"e c", "b d", "a"}},  // from the back
		{1, "a", [3]string{"e c", "a b d", ""}}, // the only one
		{2, "a", [3]string{"e c", "b d", "a"}},
		{2, "f", [3]string{"e c", "b d", "f a"}}, // from nowhere: the last place
		{0, "a", [3]string{"a e c", "b d", "f"}}, // no place is left, and none is needed
		{0, "a", [3]string{"a e c", "b d", "f"}},
		{2, "c", [3]string{"a e", "b d", "c f"}},
	} {
		if !r.Front(x.list, x.key) {
			t.Errorf("%q has no place in list %d", x.key, x.list)
		}
		wantLists(t, "front "+x.key, r, 6, x.lists[:]...)
	}
}

func TestFrontOfWhatMayNotBe(t *testing.T) {
	long := strings.Repeat("k", api.MostKey)
	r := made(t, 4, "a b", "c")
	for _, x := range []struct {
		list int
		key  string
	}{
		{-1, "d"}, {2, "d"}, {least, "d"}, {greatest, "d"}, {-1, "a"}, {2, "a"}, {7, "b"}, // no such list
		{0, long + "k"}, {1, strings.Repeat(long, 1000)}, {-1, long + "k"}, // too long
	} {
		if r.Front(x.list, x.key) {
			t.Errorf("%.10q has a place in list %d", x.key, x.list)
		}
		wantLists(t, "behind "+strconv.Itoa(x.list), r, 4, "a b", "c")
		if len(x.key) > api.MostKey {
			wantIn(t, r, x.key, 0, false)
		}
	}
	if !r.Front(1, long) {
		t.Error("the longest key has no place")
	}
	wantLists(t, "full", r, 4, "a b", long+" c")
	for _, list := range []int{0, 1} {
		if r.Front(list, "d") {
			t.Errorf("there is a place in list %d", list)
		}
	}
	wantIn(t, r, "d", 0, false)
	wantLists(t, "still full", r, 4, "a b", long+" c")
}

func TestFrontWithoutPlaces(t *testing.T) {
	r := made(t, 0, "", "")
	if r.Front(0, "a") || r.Front(1, "") {
		t.Error("there is a place")
	}
	wantLists(t, "none", r, 0, "", "")
}

// A key of any bytes, and of none.
func TestAllKeysMayBe(t *testing.T) {
	keys := []string{"", "\x00", "\xff\xfe", " ", "é", strings.Repeat("\x80", api.MostKey)}
	r := made(t, len(keys), "", "")
	for _, key := range keys {
		wantIn(t, r, key, 0, false)
		if !r.Front(1, key) {
			t.Errorf("%q has no place", key)
		}
		wantIn(t, r, key, 1, true)
	}
	if last, ok := r.Back(1); last != "" || !ok {
		t.Errorf("the last key is %q, %v", last, ok)
	}
	slices.Reverse(keys)
	if got := slices.Collect(r.Keys(1)); !slices.Equal(got, keys) {
		t.Errorf("the keys are %q", got)
	}
	same, e := Import(r.Export())
	if e != api.OK || !slices.Equal(slices.Collect(same.Keys(1)), keys) {
		t.Errorf("other keys come back, %d", e)
	}
	for _, key := range keys {
		if !r.Drop(key) || r.Drop(key) {
			t.Errorf("%q is dropped otherwise", key)
		}
	}
	wantLists(t, "dropped", r, len(keys), "", "")
}

func TestDropMakesRoom(t *testing.T) {
	r := made(t, 5, "a b c", "d e")
	for _, x := range []struct {
		key        string
		was        bool
		one, other string
	}{
		{"b", true, "a c", "d e"}, // of the middle
		{"b", false, "a c", "d e"},
		{"x", false, "a c", "d e"},
		{"", false, "a c", "d e"},
		{strings.Repeat("x", 100), false, "a c", "d e"},
		{"e", true, "a c", "d"}, // of the back
		{"a", true, "c", "d"},   // of the front
		{"c", true, "", "d"},    // the only one
		{"d", true, "", ""},
		{"d", false, "", ""},
	} {
		if was := r.Drop(x.key); was != x.was {
			t.Errorf("Drop(%.10q) is %v", x.key, was)
		}
		wantLists(t, "drop "+x.key, r, 5, x.one, x.other)
		wantIn(t, r, x.key, 0, false)
	}
	for i, key := range strings.Fields("f d g a h i") {
		if got := r.Front(i%2, key); got != (i < 5) {
			t.Errorf("a place for the key %d: %v", i, got)
		}
	}
	wantLists(t, "again", r, 5, "h g f", "a d")
}

func TestNoSuchList(t *testing.T) {
	r := made(t, 3, "a", "b")
	for _, list := range []int{-1, 2, least, greatest} {
		last, ok := r.Back(list)
		if r.Len(list) != 0 || last != "" || ok || keysOf(r, list) != "" {
			t.Errorf("list %d: %d keys: %s; the last is %q, %v", list, r.Len(list), keysOf(r, list), last, ok)
		}
	}
}

// Whoever goes over keys may stop, may do it again, and may move them: each call of Keys tells the keys that were there.
func TestKeysAreThoseOfTheirTime(t *testing.T) {
	r := made(t, 4, "a b c", "")
	keys := r.Keys(0)
	for key := range keys {
		if key == "b" {
			break
		}
	}
	if !slices.Equal(slices.Collect(keys), []string{"a", "b", "c"}) {
		t.Error("the second time there are others")
	}
	var seen []string
	for key := range r.Keys(0) {
		seen = append(seen, key)
		r.Front(0, key)
		if len(seen) > 10 {
			t.Fatal("it does not end")
		}
	}
	if !slices.Equal(seen, []string{"a", "b", "c"}) {
		t.Errorf("there were %q", seen)
	}
	wantLists(t, "turned", r, 4, "c b a", "")
	for key := range r.Keys(0) {
		r.Drop(key)
	}
	wantLists(t, "emptied", r, 4, "", "")
	if !slices.Equal(slices.Collect(keys), []string{"a", "b", "c"}) {
		t.Error("what is done later changes what was told")
	}
}

// plain is lists that are kept in the plainest way: to hold a long walk against.
type plain struct {
	places int
	lists  [][]string
}

func (p *plain) drop(key string) bool {
	for list, keys := range p.lists {
		if i := slices.Index(keys, key); i >= 0 {
			p.lists[list] = slices.Delete(keys, i, i+1)
			return true
		}
	}
	return false
}

func (p *plain) front(list int, key string) bool {
	n := 0
	for _, keys := range p.lists {
		n += len(keys)
	}
	if !p.drop(key) && n == p.places {
		return false
	}
	p.lists[list] = slices.Insert(p.lists[list], 0, key)
	return true
}

func (p *plain) texts() []string {
	texts := make([]string, len(p.lists))
	for list, keys := range p.lists {
		texts[list] = strings.Join(keys, " ")
	}
	return texts
}

func TestALongWalk(t *testing.T) {
	for _, x := range []struct{ lists, places, keys int }{{1, 1, 2}, {2, 3, 5}, {4, 9, 12}, {8, 40, 50}, {3, 50, 20}} {
		r := made(t, x.places, make([]string, x.lists)...)
		p := &plain{x.places, make([][]string, x.lists)}
		chance := uint64(x.places)
		for step := range 2000 {
			chance = chance*6364136223846793005 + 1442695040888963407
			list, key := int(chance>>33)%x.lists, "k"+strconv.Itoa(int(chance>>40)%x.keys)
			name := strconv.Itoa(step) + " " + key
			if chance>>61 < 3 {
				if was := p.drop(key); r.Drop(key) != was {
					t.Fatalf("step %s: dropped, not %v", name, was)
				}
			} else if put := p.front(list, key); r.Front(list, key) != put {
				t.Fatalf("step %s: put into list %d, not %v", name, list, put)
			}
			wantLists(t, "step "+name, r, x.places, p.texts()...)
			if len(r.slots) > x.lists+x.places {
				t.Fatalf("step %s: places that keys left are not taken again", name)
			}
			if step%97 == 0 {
				r = imported(t, r)
			}
		}
	}
}

// imported is what comes back of lists.
func imported(t *testing.T, r *Rings) *Rings {
	t.Helper()
	same, e := Import(r.Export())
	if e != api.OK || same.Export() != r.Export() {
		t.Fatalf("another one comes back: %v, %d", same, e)
	}
	return same
}

func TestExportHasNumbersAndKeys(t *testing.T) {
	for _, x := range []struct {
		name string
		r    *Rings
		want string
	}{
		{"one without anything", made(t, 0, ""), "01 00 00"},
		{"most without anything", made(t, 4096, "", "", "", "", "", "", "", ""), "08 8020 00 00 00 00 00 00 00 00"},
		{"two keys", made(t, 2, "a b"), "01 02 02 01 61 01 62"},
		{"three lists", made(t, 300, "xyz a", "", "b"), "03 ac02 02 03 78797a 01 61 00 01 01 62"},
	} {
		if got := x.r.Export(); got != bytesOf(t, x.want) {
			t.Errorf("%s: the bytes are %x, not %s", x.name, got, x.want)
		}
	}
	r := made(t, 2, "", "")
	r.Front(1, "")
	if got := r.Export(); got != "\x02\x02\x00\x01\x00" {
		t.Errorf("with a key of no bytes they are %x", got)
	}
	long := strings.Repeat("k", api.MostKey)
	if got := made(t, 1, long).Export(); got != "\x01\x01\x01\x40"+long {
		t.Errorf("with the longest key they are %x", got)
	}
}

// What hangs on the way by which keys came where they are is not to be seen.
func TestExportOfOtherWays(t *testing.T) {
	a, b := made(t, 5, "x y", "z"), made(t, 5, "q z", "y p r")
	for _, key := range strings.Fields("p q r") {
		b.Drop(key)
	}
	b.Front(1, "z")
	b.Front(0, "y")
	b.Front(0, "x")
	if a.Export() != b.Export() {
		t.Errorf("%x is not %x", b.Export(), a.Export())
	}
}

func TestImportGoesOnAsItWas(t *testing.T) {
	for _, lists := range [][]string{{""}, {"a b c d e"}, {"", "a b", "", "c", "d"}, {"", "", "", "", "", "", "", "a"}} {
		r := made(t, 6, lists...)
		before := r.Export()
		same := imported(t, r)
		wantLists(t, "same", same, 6, lists...)
		if !r.Front(0, "new") || same.Export() != before {
			t.Error("what is done to the one is done to the other")
		}
		same.Front(0, "new")
		for i := range 20 {
			list, key := i%len(lists), strconv.Itoa(i*i%11)
			if i%5 == 4 {
				key, _ = r.Back(list)
			}
			if r.Front(list, key) != same.Front(list, key) || i%3 == 2 && r.Drop(key) != same.Drop(key) {
				t.Errorf("%v: step %d answers otherwise", lists, i)
			}
		}
		if r.Export() != same.Export() {
			t.Errorf("%v: it goes on otherwise", lists)
		}
	}
}

func TestImportOfTheFullest(t *testing.T) {
	var b strings.Builder
	b.WriteString(wire.Num(api.MostRings) + wire.Num(api.MostSlots))
	for list := range api.MostRings {
		b.WriteString(wire.Num(api.MostSlots / api.MostRings))
		for i := range api.MostSlots / api.MostRings {
			key := strconv.Itoa(list) + "/" + strconv.Itoa(i) + "/"
			b.WriteString(wire.Text(key + strings.Repeat("k", api.MostKey-len(key))))
		}
	}
	r, e := Import(b.String())
	if e != api.OK || r.Free() != 0 || r.Export() != b.String() {
		t.Fatalf("all keys that may be: %d, %d places left", e, r.Free())
	}
	if r.Front(0, "one more") {
		t.Error("there is a place")
	}
	head := wire.Num(1) + wire.Num(api.MostSlots) + wire.Num(api.MostSlots)
	keys := ""
	for i := range api.MostSlots {
		keys += wire.Text(strconv.Itoa(i))
	}
	if r, e := Import(head + keys); e != api.OK || r.Len(0) != api.MostSlots {
		t.Errorf("all in one list: %d", e)
	}
}

func TestImportTellsWhatCantBe(t *testing.T) {
	long := strings.Repeat("6b", api.MostKey)
	for _, x := range []struct {
		name, s string
		want    api.Errno
	}{
		{"three lists", "03 04 01 0161 00 02 0162 0163", api.OK},
		{"nothing", "", api.ErrShort},
		{"one number", "01", api.ErrShort},
		{"no list, cut", "00", api.ErrShort}, // it is asked behind both numbers
		{"no list", "00 00", api.ErrForm},
		{"no list, places", "00 05", api.ErrForm},
		{"no list, a byte too many", "00 05 00", api.ErrForm},
		{"no list, too many places", "00 8120", api.ErrOver},
		{"no list, places not in their shortest form", "00 8500", api.ErrForm},
		{"no list, half the places", "00 85", api.ErrShort},
		{"eight lists", "08 00 0000000000000000", api.OK},
		{"nine lists", "09", api.ErrOver}, // ahead of the bytes' end
		{"nine lists, all there", "09 05 000000000000000000", api.ErrOver},
		{"nine lists ahead of places", "09 8500", api.ErrOver},
		{"much too many", "ffffffffffffffffff01", api.ErrOver},
		{"lists of 65 bits", "80808080808080808002", api.ErrForm},
		{"lists not in their shortest form", "8100", api.ErrForm},
		{"most places", "01 8020 00", api.OK},
		{"too many places", "01 8120", api.ErrOver},
		{"much too many places", "01 ffffffffffffffffff01", api.ErrOver},
		{"too many places ahead of keys", "01 8120 02 0161 0161", api.ErrOver},
		{"as many keys as places", "01 02 02 0161 0162", api.OK},
		{"more keys than places", "01 02 03", api.ErrOver},
		{"more keys than places, all there", "01 02 03 0161 0162 0163", api.ErrOver},
		{"more keys than no places", "01 00 01", api.ErrOver},
		{"much more keys", "01 8020 ffffffffffffffffff01", api.ErrOver},
		{"more keys than places in the second list", "02 02 00 03", api.ErrOver},
		{"more keys ahead of no place for them", "02 02 01 0161 03", api.ErrOver},
		{"how many keys, not in the shortest form", "01 02 8100 0161", api.ErrForm},
		{"the longest key", "01 01 01 40" + long, api.OK},
		{"a key too long", "01 01 01 41", api.ErrOver},
		{"a key too long, all there", "01 01 01 41" + long + "6b", api.ErrOver},
		{"a key much too long", "01 01 01 ffffffffffffffffff01", api.ErrOver},
		{"a key too long behind one that comes twice", "01 03 03 0161 0161 41", api.ErrOver}, // that is asked behind all keys
		{"a key twice", "01 02 02 0161 0161", api.ErrForm},
		{"a key twice, and all the rest", "02 04 02 0161 0161 00", api.ErrForm},
		{"a key twice, and the end", "02 04 02 0161 0161", api.ErrForm}, // ahead of the bytes' end
		{"a key twice, cut ahead of the list's last", "01 04 03 0161 0161", api.ErrShort},
		{"a key twice, not side by side", "01 04 03 0161 0162 0161", api.ErrForm},
		{"no bytes twice", "01 04 02 00 00", api.ErrForm},
		{"a key in two lists", "02 04 01 0161 01 0161", api.ErrForm},
		{"a key in two lists, cut", "02 04 01 0161 02 0161", api.ErrShort},
		{"a key in the first and the third", "04 04 01 0161 01 0162 02 0163 0161", api.ErrForm},
		{"a key twice ahead of too many keys", "03 04 01 0161 01 0161 05", api.ErrForm},
		{"no place for the second list", "02 02 01 0161 02 0162 0163", api.ErrForm},
		{"no place for the second list, and the end", "03 02 01 0161 02 0162 0163", api.ErrForm},
		{"no place, cut ahead of the list's last", "02 02 01 0161 02 0162", api.ErrShort},
		{"no place for the third list", "03 02 01 0161 01 0162 01 0163", api.ErrForm},
		{"no place ahead of too long a key", "03 02 01 0161 02 0162 0163 01 41", api.ErrForm},
		{"no place, a byte too many", "02 01 01 0161 01 0162 00", api.ErrForm},
		{"a byte too many", "01 02 01 0161 00", api.ErrExtra},
		{"a list too many", "02 02 00 00 00", api.ErrExtra},
		{"a list too few", "02 02 00", api.ErrShort},
	} {
		r, e := Import(bytesOf(t, x.s))
		if e != x.want || (r != nil) != (e == api.OK) {
			t.Errorf("%s: %v, %d, not %d", x.name, r, e, x.want)
		}
	}
}

func TestImportOfBytesThatEnd(t *testing.T) {
	all := made(t, 300, "a bc "+strings.Repeat("d", 64), "", "e", "f g h").Export()
	for n := range all {
		if r, e := Import(all[:n]); r != nil || e != api.ErrShort {
			t.Errorf("%d bytes of %d: %v, %d", n, len(all), r, e)
		}
	}
}

func TestTakeLeavesWhatIsBehind(t *testing.T) {
	a, b := made(t, 3, "a b", "c"), made(t, 9, "", "b a")
	e := wire.Read("x"+a.Export()+b.Export()+"yz", func(r *wire.Reader) {
		r.Bytes(1)
		if got := Take(r); got.Export() != a.Export() {
			t.Errorf("the first one is %x", got.Export())
		}
		got := Take(r)
		wantLists(t, "the second one", got, 9, "", "b a")
		if r.Left() != 2 || r.Bytes(2) != "yz" {
			t.Error("left:", r.Left())
		}
	})
	if e != api.OK {
		t.Error(e)
	}
}

func TestTakeEndsTheReading(t *testing.T) {
	for _, x := range []struct {
		s    string
		want api.Errno
	}{
		{"", api.ErrShort},
		{"00 05", api.ErrForm},
		{"09", api.ErrOver},
		{"01 8120", api.ErrOver},
		{"01 02 03", api.ErrOver},
		{"01 02 01 41", api.ErrOver},
		{"01 02 02 0161", api.ErrShort},
		{"01 02 02 0161 0161", api.ErrForm},
		{"02 01 01 0161 01 0162", api.ErrForm},
	} {
		e := wire.Read(bytesOf(t, x.s), func(r *wire.Reader) {
			Take(r)
			t.Errorf("%s: it goes on", x.s)
		})
		if e != x.want {
			t.Errorf("%s: %d, not %d", x.s, e, x.want)
		}
	}
}

func TestTakeWhereNothingIsRead(t *testing.T) {
	var over *wire.Reader
	wire.Read(made(t, 3, "a").Export(), func(r *wire.Reader) { over = r })
	for _, r := range []*wire.Reader{nil, {}, over} {
		if rings := Take(r); rings != nil {
			t.Errorf("%v", rings)
		}
	}
}

func TestNilHasNothing(t *testing.T) {
	for _, r := range []*Rings{nil, {}} {
		if r.Front(0, "a") || r.Drop("a") || r.Lists() != 0 || r.Free() != 0 || r.Export() != "" {
			t.Errorf("%v: %d lists, %d places, bytes %x", r, r.Lists(), r.Free(), r.Export())
		}
		for _, list := range []int{-1, 0, 1} {
			last, ok := r.Back(list)
			if r.Len(list) != 0 || last != "" || ok || keysOf(r, list) != "" {
				t.Errorf("%v: list %d: %d keys: %s; the last is %q, %v", r, list, r.Len(list), keysOf(r, list), last, ok)
			}
		}
		wantIn(t, r, "a", 0, false)
	}
}

func TestTwoShareNothing(t *testing.T) {
	a, b := made(t, 4, "x", "y"), made(t, 4, "x", "y")
	a.Front(1, "x")
	a.Front(0, "z")
	a.Drop("y")
	wantLists(t, "the one", a, 4, "z", "x")
	wantLists(t, "the other", b, 4, "x", "y")
}

package tiny

import (
	"crypto/sha256"
	"encoding/hex"
	"slices"
	"strconv"
	"strings"
	"testing"

	"hawthorn/api"
	"hawthorn/ring"
	"hawthorn/sketch"
	"hawthorn/wire"
)

const (
	greatest = 1<<63 - 1
	smallest = -1 << 63
	most     = 1<<64 - 1
	seed     = 2 // by it the keys of these tests have counters of their own
)

// A state is told as a text: how many are kept at most, the three lists from the front on, and all that was added to the sketch: "3 | a | b | c | a b c a".

// parts is the parts of a state; the last one is empty, where nothing is told of the sketch.
func parts(state string) (c int, lists []string, added []string) {
	all := strings.Split(state, "|")
	c, _ = strconv.Atoi(strings.TrimSpace(all[0]))
	return c, all[1:4], strings.Fields(strings.Join(all[4:], " "))
}

// laid is one of a state. It need not be such as bytes may tell.
func laid(t *testing.T, state string) *Tiny {
	t.Helper()
	c, lists, added := parts(state)
	a := &Tiny{most: c, sketch: sketchOf(t, min(8*c, 4096), added...), rings: ringsOf(t, c+1, lists...)}
	if len(added) >= 10*a.sketch.Wide() {
		return a // it aged: nothing can be said of what it saw
	}
	for _, key := range added {
		times := len(slices.DeleteFunc(slices.Clone(added), func(k string) bool { return k != key }))
		if a.Seen(key) != min(times, api.MostNote+1) {
			t.Fatalf("%s: %s was seen %d times: it shares its counters", state, key, a.Seen(key))
		}
	}
	return a
}

// sketchOf is a sketch to which keys were added.
func sketchOf(t *testing.T, wide int, added ...string) *sketch.Sketch {
	t.Helper()
	s, e := sketch.New(wide, seed)
	if e != api.OK {
		t.Fatal(e)
	}
	for _, key := range added {
		s.Add(key)
	}
	return s
}

// ringsOf is rings of lists.
func ringsOf(t *testing.T, places int, lists ...string) *ring.Rings {
	t.Helper()
	r, e := ring.New(len(lists), places)
	if e != api.OK {
		t.Fatal(e)
	}
	for list, keys := range lists {
		for _, key := range slices.Backward(strings.Fields(keys)) {
			if !r.Front(list, key) {
				t.Fatalf("%q has no place in list %d", key, list)
			}
		}
	}
	return r
}

// stateBytes is the bytes of a state, that perhaps may not be.
func stateBytes(t *testing.T, state string) string {
	t.Helper()
	c, lists, added := parts(state)
	return wire.Num(uint64(c)) + sketchOf(t, min(8*c, 4096), added...).Export() + ringsOf(t, c+1, lists...).Export()
}

// wantState holds all that is told of one against a state.
func wantState(t *testing.T, name string, a *Tiny, state string) {
	t.Helper()
	_, lists, _ := parts(state)
	kept := 0
	for list, keys := range a.Lists() {
		if !slices.Equal(keys, strings.Fields(lists[list])) {
			t.Errorf("%s: the lists are %q, not %q", name, a.Lists(), lists)
			return
		}
		kept += len(keys)
		for _, key := range keys {
			if !a.Has(key) {
				t.Errorf("%s: %q is not kept", name, key)
			}
		}
	}
	if a.Len() != kept {
		t.Errorf("%s: %d are kept, not %d", name, a.Len(), kept)
	}
	if a.Export() != stateBytes(t, state) {
		t.Errorf("%s: the bytes are %x, not %x", name, a.Export(), stateBytes(t, state))
	}
}

// wantGone holds the keys that go against a text; "-": none.
func wantGone(t *testing.T, name string, gone []string, want string) {
	t.Helper()
	if want == "-" && len(gone) == 0 {
		return
	}
	if len(gone) != 1 || gone[0] != want {
		t.Errorf("%s: %q go, not %s", name, gone, want)
	}
}

func fresh(t *testing.T, c int, seed uint64) *Tiny {
	t.Helper()
	a, e := New(c, seed)
	if e != api.OK || a == nil {
		t.Fatalf("New(%d, %d) is %v, %d", c, seed, a, e)
	}
	return a
}

func TestPartsOfSoMany(t *testing.T) {
	for _, x := range []struct{ c, window, safe int }{
		{1, 1, 0}, {2, 1, 0}, {3, 1, 1}, {4, 1, 2}, {5, 1, 3}, {6, 1, 4}, {7, 1, 4}, {8, 1, 5}, {9, 1, 6}, {15, 1, 11},
		{16, 2, 11}, {17, 2, 12}, {23, 2, 16}, {24, 3, 16}, {100, 12, 70}, {512, 64, 358}, {999, 124, 700}, {1000, 125, 700},
	} {
		if got := Parts(x.c); got != (api.Parts{Window: x.window, Protected: x.safe}) {
			t.Errorf("Parts(%d) is %v, not %d, %d", x.c, got, x.window, x.safe)
		}
	}
	for _, c := range []int{0, -1, -100, smallest, api.MostEntries + 1, greatest} {
		if got := Parts(c); got != (api.Parts{}) {
			t.Errorf("Parts(%d) is %v", c, got)
		}
	}
}

func TestNewOfSoMany(t *testing.T) {
	for _, c := range []int{1, 2, 8, 100, 511, 512, 513, api.MostEntries} {
		a := fresh(t, c, seed)
		wantState(t, "new", a, strconv.Itoa(c)+" | | | |")
		for i := range c {
			wantGone(t, "filled", a.Insert(strconv.Itoa(i)), "-")
		}
		if a.Len() != c {
			t.Errorf("%d are kept, not %d", a.Len(), c)
		}
		if gone := a.Insert("one more"); len(gone) != 1 || a.Has(gone[0]) || !a.Has("one more") || a.Len() != c {
			t.Errorf("of %d: %q go, %d are kept", c, gone, a.Len())
		}
	}
	for _, c := range []int{0, -1, smallest, api.MostEntries + 1, greatest} {
		if a, e := New(c, seed); a != nil || e != api.ErrInput {
			t.Errorf("New(%d) is %v, %d", c, a, e)
		}
	}
}

func TestNewHasTheSeed(t *testing.T) {
	for _, seed := range []uint64{0, 1, 300, most} {
		want := wire.Num(2) + wire.Num(16) + wire.Num(seed) + strings.Repeat("\x00", 1+5*16) + "\x03\x03\x00\x00\x00"
		if got := fresh(t, 2, seed).Export(); got != want {
			t.Errorf("seed %d: the bytes are %x, not %x", seed, got, want)
		}
	}
}

func TestFirstSteps(t *testing.T) {
	a := fresh(t, 3, seed)
	for _, x := range []struct{ do, key, gone, state string }{
		{"insert", "a", "-", "3 | a | | | a"},
		{"insert", "b", "-", "3 | b | a | | a b"},
		{"touch", "b", "-", "3 | b | a | | a b b"},
		{"insert", "c", "-", "3 | c | b a | | a b b c"},
		{"insert", "d", "c", "3 | d | b a | | a b b c d"}, // c, that leaves the window, was seen as often as a
		{"touch", "b", "-", "3 | d | a | b | a b b c d b"},
		{"insert", "d", "-", "3 | d | a | b | a b b c d b d"},
		{"insert", "e", "a", "3 | e | d | b | a b b c d b d e"},
		{"touch", "d", "-", "3 | e | b | d | a b b c d b d e d"}, // one too many is safe
		{"insert", "a", "e", "3 | a | b | d | a b b c d b d e d a"},
		{"insert", "b", "-", "3 | a | d | b | a b b c d b d e d a b"},
	} {
		name := x.do + " " + x.key
		if x.do == "touch" {
			if !a.Touch(x.key) {
				t.Errorf("%s: it is not kept", name)
			}
		} else {
			wantGone(t, name, a.Insert(x.key), x.gone)
		}
		wantState(t, name, a, x.state)
	}
}

// By the chapter's words it is the window's last one that is held against the one on trial: of a, b, c that is b.
func TestTheExampleOfTheChapter(t *testing.T) {
	a := fresh(t, 2, seed)
	wantGone(t, "a", a.Insert("a"), "-")
	wantGone(t, "b", a.Insert("b"), "-")
	wantState(t, "b", a, "2 | b | a | | a b")
	wantGone(t, "c", a.Insert("c"), "b")
	wantState(t, "c", a, "2 | c | a | | a b c")
}

func TestTouchOfKeys(t *testing.T) {
	const state = "24 | a b c | d e f | g h i | a b c d e f g h i"
	for _, x := range []struct {
		key  string
		kept bool
		want string
	}{
		{"a", true, "24 | a b c | d e f | g h i | a b c d e f g h i a"},
		{"b", true, "24 | b a c | d e f | g h i | a b c d e f g h i b"},
		{"c", true, "24 | c a b | d e f | g h i | a b c d e f g h i c"},
		{"d", true, "24 | a b c | e f | d g h i | a b c d e f g h i d"},
		{"e", true, "24 | a b c | d f | e g h i | a b c d e f g h i e"},
		{"f", true, "24 | a b c | d e | f g h i | a b c d e f g h i f"},
		{"g", true, "24 | a b c | d e f | g h i | a b c d e f g h i g"},
		{"h", true, "24 | a b c | d e f | h g i | a b c d e f g h i h"},
		{"i", true, "24 | a b c | d e f | i g h | a b c d e f g h i i"},
		{"x", false, state},
		{"", false, state},
		{strings.Repeat("a", api.MostKey+1), false, state},
	} {
		a := laid(t, state)
		if kept := a.Touch(x.key); kept != x.kept || a.Has(x.key) != x.kept {
			t.Errorf("%.10q is kept: %v, %v", x.key, kept, a.Has(x.key))
		}
		wantState(t, "touch "+x.key, a, x.want)
		if !x.kept {
			continue
		}
		a = laid(t, state) // to insert it is to touch it
		wantGone(t, x.key, a.Insert(x.key), "-")
		wantState(t, "insert "+x.key, a, x.want)
	}
}

func TestTouchOfKeysWhereAsManyAreSafeAsMayBe(t *testing.T) {
	for _, x := range []struct{ name, state, key, want string }{
		{"one less", "5 | a | b c | d e |", "c", "5 | a | b | c d e | c"},
		{"as many", "5 | a | b | c d e |", "b", "5 | a | e | b c d | b"},
		{"as many, more on trial", "6 | | a b | c d e f |", "b", "6 | | f a | b c d e | b"},
		{"as many, it is one of them", "5 | a | b | c d e |", "e", "5 | a | b | e c d | e"},
		{"as many, it is one of the window", "5 | a | b | c d e |", "a", "5 | a | b | c d e | a"},
		{"just one may be", "3 | a | b | c |", "b", "3 | a | c | b | b"},
		{"none may be", "2 | a | b | |", "b", "2 | a | b | | b"},
		{"none may be, more on trial", "2 | | a b | |", "b", "2 | | b a | | b"},
		{"c is 1", "1 | a | | |", "a", "1 | a | | | a"},
	} {
		a := laid(t, x.state)
		if !a.Touch(x.key) {
			t.Errorf("%s: it is not kept", x.name)
		}
		wantState(t, x.name, a, x.want)
	}
}

func TestInsertOfNewKeys(t *testing.T) {
	for _, x := range []struct{ name, state, gone, want string }{
		{"none is kept", "2 | | | |", "-", "2 | x | | | x"},
		{"none is in the window", "8 | | a b | c |", "-", "8 | x | a b | c | x"},
		{"the window has room", "16 | a | b | c |", "-", "16 | x a | b | c | x"},
		{"the window has none", "16 | a b | | |", "-", "16 | x a | b | | x"},
		{"the window has none, some are on trial", "16 | a b | c d | e |", "-", "16 | x a | b c d | e | x"},
		{"fewer than c are kept then", "4 | a | b | |", "-", "4 | x | a b | | x"},
		{"c are kept then", "4 | a | b | c |", "-", "4 | x | a b | c | x"},
		{"c are kept then, none on trial", "3 | a | | b |", "-", "3 | x | a | b | x"},
		{"the window's last one was seen as often", "3 | a | b | c | a b", "a", "3 | x | b | c | a b x"},
		{"neither was seen", "3 | a | b | c |", "a", "3 | x | b | c | x"},
		{"less often", "3 | a | b | c | a b b", "a", "3 | x | b | c | a b b x"},
		{"more often", "3 | a | b | c | a a b", "b", "3 | x | a | c | a a b x"},
		{"more often than never", "3 | a | b | c | a", "b", "3 | x | a | c | a x"},
		{"more often than the last on trial alone", "5 | a | b c d | e | a a b b b c c c d e e e", "d", "5 | x | a b c | e | a a b b b c c c d e e e x"},
		{"less often than the last on trial alone", "5 | a | b c d | e | a a d d d", "a", "5 | x | b c d | e | a a d d d x"},
		{"less often than a safe one", "3 | a | b | c | a a b c c c", "b", "3 | x | a | c | a a b c c c x"},
		{"what was seen before counts", "3 | a | b | c | x x x x a b b", "a", "3 | x | b | c | x x x x a b b x"},
		{"the window's last one, not the one ahead of it", "16 | a b | c d e f g h i | j k l m n o p | a a a", "b", "16 | x a | c d e f g h i | j k l m n o p | a a a x"},
		{"the window's last one goes on trial", "16 | a b | c d e f g h i | j k l m n o p | b", "i", "16 | x a | b c d e f g h | j k l m n o p | b x"},
		{"as often as may be noted", "3 | a | b | c | " + strings.Repeat("a b ", 16), "a", "3 | x | b | c | " + strings.Repeat("a b ", 16) + "x"},
		{"none but the window's, c is 1", "1 | a | | | a a a", "a", "1 | x | | | a a a x"},
		{"none is on trial, less often", "2 | a | | b | a b b", "a", "2 | x | | b | a b b x"},
		{"none is on trial, as often", "2 | a | | b | a b", "a", "2 | x | | b | a b x"},
		{"none is on trial, more often", "2 | a | | b | a a b", "b", "2 | x | a | | a a b x"},
		{"none is on trial, more often than the last safe one", "4 | a | | b c d | a a b b b c c c d", "d", "4 | x | a | b c | a a b b b c c c d x"},
	} {
		a := laid(t, x.state)
		wantGone(t, x.name, a.Insert("x"), x.gone)
		wantState(t, x.name, a, x.want)
	}
}

// By its own addition the sketch ages, ahead of the question which one was seen more often.
func TestInsertAgesAheadOfTheQuestion(t *testing.T) {
	const state = "2 | a | b | | a a a a b b b"
	for _, x := range []struct {
		others int // additions
		gone   string
		want   string // the lists
	}{
		{160 - 2 - 7, "b", "2 | x | a | |"},
		{160 - 1 - 7, "a", "2 | x | b | |"},
	} {
		others := strings.Repeat(" z", x.others)
		a := laid(t, state+others)
		if a.Seen("a") != 4 || a.Seen("b") != 3 {
			t.Fatalf("seen: %d, %d", a.Seen("a"), a.Seen("b"))
		}
		wantGone(t, "the last addition", a.Insert("x"), x.gone)
		wantState(t, "the last addition", a, x.want+" a a a a b b b"+others+" x")
	}
}

// More behind the window than it leaves to others: Insert never comes to that, but bytes may. Not more than c are kept, all the same.
func TestInsertWhereTheWindowIsLeftToOthers(t *testing.T) {
	for _, x := range []struct{ name, state, gone, want string }{
		{"seen more often, just now", "2 | | a b | |", "b", "2 | | x a | | x"},
		{"seen as often", "2 | | a b | | b", "x", "2 | | a b | | b x"},
		{"seen more often", "2 | | a b | | x b", "b", "2 | | x a | | x b x"},
		{"one of the window", "16 | a | b c d e f g h i | j k l m n o p | a", "i", "16 | x | a b c d e f g h | j k l m n o p | a x"},
	} {
		a := laid(t, x.state)
		wantGone(t, x.name, a.Insert("x"), x.gone)
		wantState(t, x.name, a, x.want)
		same, e := Import(a.Export())
		if e != api.OK || same.Export() != a.Export() {
			t.Errorf("%s: it does not come back: %d", x.name, e)
		}
	}
}

func TestInsertOfKeysOfAnyBytes(t *testing.T) {
	long := strings.Repeat("k", api.MostKey)
	const state = "3 | a | b | c | a a"
	a := laid(t, state)
	for _, key := range []string{long + "k", strings.Repeat(long, 1000)} {
		wantGone(t, "too long", a.Insert(key), "-")
		if a.Has(key) || a.Touch(key) || a.Remove(key) {
			t.Error("a key that is too long is kept")
		}
		wantState(t, "too long", a, state)
	}
	wantGone(t, "the longest", a.Insert(long), "b")
	wantState(t, "the longest", a, "3 | "+long+" | a | c | a a "+long)
	keys := []string{"", "\x00", "\xff\xfe", " ", "é", strings.Repeat("\x80", api.MostKey)}
	a = fresh(t, len(keys), 0)
	for _, key := range keys {
		if a.Has(key) {
			t.Errorf("%q is kept", key)
		}
		wantGone(t, "room", a.Insert(key), "-")
		if !a.Has(key) || a.Seen(key) != 1 {
			t.Errorf("%q is not kept, or was seen %d times", key, a.Seen(key))
		}
	}
	for _, key := range keys[:len(keys)-1] { // they come to be on trial in their order
		if gone, ok := a.Evict(); gone != key || !ok {
			t.Errorf("%q, %v went, not %q", gone, ok, key)
		}
	}
}

func TestMissAddsToTheSketch(t *testing.T) {
	const state = "3 | a | b | c | a"
	long := strings.Repeat("k", api.MostKey)
	for _, x := range []struct{ key, want string }{
		{"x", state + " x"},
		{"a", state + " a"}, // it is kept: it stays where it is
		{"b", state + " b"},
		{"c", state + " c"},
		{long, state + " " + long},
		{long + "k", state},
		{strings.Repeat(long, 1000), state},
	} {
		a := laid(t, state)
		a.Miss(x.key)
		wantState(t, x.key, a, x.want)
	}
	a := laid(t, state)
	a.Miss("")
	if a.Seen("") != 1 || a.Has("") {
		t.Errorf("the empty key was seen %d times", a.Seen(""))
	}
}

func TestSeenIsTheSketchs(t *testing.T) {
	a := laid(t, "3 | a | b | c | a a a b b d")
	for key, want := range map[string]int{"a": 3, "b": 2, "c": 0, "d": 1, "x": 0} {
		if got := a.Seen(key); got != want {
			t.Errorf("%s was seen %d times, not %d", key, got, want)
		}
	}
	same := sketchOf(t, 24, "a", "a", "a", "b", "b", "d")
	for i := range 300 {
		key := strings.Repeat("k", i)
		if a.Seen(key) != same.Seen(key) {
			t.Errorf("a key of %d bytes was seen %d times, not %d", i, a.Seen(key), same.Seen(key))
		}
	}
	for range 50 {
		a.Touch("a")
	}
	if a.Seen("a") != api.MostNote+1 {
		t.Errorf("a was seen %d times", a.Seen("a"))
	}
}

func TestRemoveFromWhicheverList(t *testing.T) {
	const state = "16 | a b | c d | e f | a a b c d e f"
	for _, x := range []struct {
		key  string
		kept bool
		want string
	}{
		{"a", true, "16 | b | c d | e f | a a b c d e f"},
		{"b", true, "16 | a | c d | e f | a a b c d e f"},
		{"c", true, "16 | a b | d | e f | a a b c d e f"},
		{"d", true, "16 | a b | c | e f | a a b c d e f"},
		{"e", true, "16 | a b | c d | f | a a b c d e f"},
		{"f", true, "16 | a b | c d | e | a a b c d e f"},
		{"x", false, state},
		{"", false, state},
		{strings.Repeat("a", api.MostKey+1), false, state},
	} {
		a := laid(t, state)
		if kept := a.Remove(x.key); kept != x.kept {
			t.Errorf("%.10q was kept: %v", x.key, kept)
		}
		wantState(t, "remove "+x.key, a, x.want)
		if a.Remove(x.key) || a.Has(x.key) {
			t.Errorf("%.10q is still kept", x.key)
		}
		wantState(t, "remove again "+x.key, a, x.want)
	}
}

func TestRemoveMakesRoom(t *testing.T) {
	a := laid(t, "3 | a | b | c | a a b")
	a.Remove("c")
	wantGone(t, "room", a.Insert("x"), "-")
	wantState(t, "room", a, "3 | x | a b | | a a b x")
	a.Remove("a")
	wantGone(t, "as a new one", a.Insert("a"), "-")
	wantState(t, "as a new one", a, "3 | a | x b | | a a b x a") // but what the sketch saw stays
}

func TestEvictInTheOrderOfTheLists(t *testing.T) {
	for _, x := range []struct{ name, state, gone, want string }{
		{"all lists", "16 | a b | c d | e f | d d d", "d", "16 | a b | c | e f | d d d"},
		{"one on trial", "16 | a b | c | e f |", "c", "16 | a b | | e f |"},
		{"none on trial", "16 | a b | | e f | b b", "b", "16 | a | | e f | b b"},
		{"none on trial, one in the window", "16 | a | | e f |", "a", "16 | | | e f |"},
		{"just safe ones", "16 | | | e f | f f", "f", "16 | | | e | f f"},
		{"just one safe one", "16 | | | e |", "e", "16 | | | |"},
		{"just in the window", "16 | a b | | |", "b", "16 | a | | |"},
		{"just on trial", "16 | | a b | |", "b", "16 | | a | |"},
		{"just on trial and safe", "16 | | a b | c |", "b", "16 | | a | c |"},
		{"c is 1", "1 | a | | |", "a", "1 | | | |"},
	} {
		a := laid(t, x.state)
		if gone, ok := a.Evict(); gone != x.gone || !ok || a.Has(gone) {
			t.Errorf("%s: %q, %v goes, not %s", x.name, gone, ok, x.gone)
		}
		wantState(t, x.name, a, x.want)
	}
	const state = "3 | | | | a"
	a := laid(t, state)
	if gone, ok := a.Evict(); gone != "" || ok {
		t.Errorf("%q, %v goes", gone, ok)
	}
	wantState(t, "none is kept", a, state)
}

func TestWhatIsToldIsTheCallers(t *testing.T) {
	const state = "3 | a | b | c | a"
	a := laid(t, state)
	lists := a.Lists()
	for list := range lists {
		lists[list][0] = "spoilt"
	}
	wantState(t, "lists", a, state)
	lists = a.Lists()
	gone := a.Insert("x")
	wantGone(t, "x", gone, "b")
	gone[0] = "spoilt"
	wantState(t, "gone", a, "3 | x | a | c | a x")
	if lists[0][0] != "a" || lists[1][0] != "b" || lists[2][0] != "c" {
		t.Errorf("what is done later changes what was told: %q", lists)
	}
}

// step does one thing of a walk, and tells what was answered.
func step(a *Tiny, key string, do uint64) string {
	switch {
	case do < 40:
		return "i" + strings.Join(a.Insert(key), " ")
	case do < 50:
		return "t" + told(a.Touch(key))
	case do < 56:
		a.Miss(key)
		return "m" + strconv.Itoa(a.Seen(key))
	case do < 60:
		return "r" + told(a.Remove(key))
	}
	gone, ok := a.Evict()
	return "e" + told(ok) + gone
}

func told(ok bool) string {
	if ok {
		return "1"
	}
	return "0"
}

// The sums are of what another program, made from the document, answers to the same calls, and of its bytes at each step.
func TestLongWalks(t *testing.T) {
	for _, x := range []struct {
		c           int
		seed        uint64
		keys, steps int
		want        string
	}{
		{1, 0, 3, 500, "af3d7f8ef4bdbe35143bdd05ec52a0331d6b3aa771ef241d158097eaaf076c07"},
		{2, 9, 6, 2000, "c313c6e4da70ae5347025940de5cbdb13e203f30baefadd984bbf7ec868f07bf"},
		{3, most, 10, 2000, "4fbc0432f72c412cb20f0d770ad4b2501eb2930eb2f360f61c10553366c3185f"},
		{8, 1, 20, 2000, "ff1667521b83b3b9c280a0879801e4a9a77a6879655b124cd88b1437fdbc559e"},
		{15, 2, 40, 2000, "69836ed06d62d6cb95953a981854392c10a65da1f3028d9ac04c9cdd954aea4e"},
		{16, 3, 40, 2000, "2e4a7d42baefc7e1f53019fbcd1ef336ca1e4aa587bb2042c68049daec179b5a"},
		{40, 4, 120, 2000, "8c9925b43688d35415ba3b2c48ae5573818c03eb8cac429c0cc0a097139c5dea"},
		{100, 5, 250, 2000, "883f64a04456451466c187d7cfd9b38a7a7de5263f68e20f9061b229dcc62777"},
		{600, 6, 1500, 3000, "5a9b6656483bc91f96a6a27c97b91a6dd0ae9a2bd6fc9e9715165d4ac32aa86e"},
	} {
		a := fresh(t, x.c, x.seed)
		sum := sha256.New()
		chance := uint64(x.c*1000 + x.keys)
		for i := range x.steps {
			chance = chance*6364136223846793005 + 1442695040888963407
			n := int(chance>>33) % x.keys
			if chance>>43&3 == 0 { // some are asked for more often
				n = int(chance>>33) % max(1, x.c/2)
			}
			answer := step(a, "k"+strconv.Itoa(n), chance>>58)
			sum.Write([]byte(answer + ";" + a.Export()))
			if i%101 == 0 {
				a = wantSame(t, a)
			}
		}
		if got := hex.EncodeToString(sum.Sum(nil)); got != x.want {
			t.Errorf("c is %d: the sum is %s, not %s", x.c, got, x.want)
		}
	}
}

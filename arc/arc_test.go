package arc

import (
	"encoding/hex"
	"slices"
	"strconv"
	"strings"
	"testing"

	"hawthorn/api"
	"hawthorn/ring"
	"hawthorn/wire"
)

const (
	greatest = 1<<63 - 1
	smallest = -1 << 63
)

// A state is told as a text: how many are kept at most, the target, and the four lists from the front on: "3 1 | a b | c | d | e".

// laid is one of a state.
func laid(t *testing.T, state string) *Arc {
	t.Helper()
	a, e := Import(stateBytes(t, state))
	if e != api.OK {
		t.Fatalf("%s can't be: %d", state, e)
	}
	return a
}

// stateBytes is the bytes of a state, that perhaps may not be.
func stateBytes(t *testing.T, state string) string {
	t.Helper()
	parts := strings.Split(state, "|")
	head := strings.Fields(parts[0])
	most, _ := strconv.Atoi(head[0])
	target, _ := strconv.Atoi(head[1])
	return wire.Num(uint64(most)) + wire.Num(uint64(target)) + ringBytes(t, 2*most+1, parts[1:]...)
}

// ringBytes is the bytes of rings.
func ringBytes(t *testing.T, places int, lists ...string) string {
	t.Helper()
	r, e := ring.New(len(lists), places)
	if e != api.OK {
		t.Fatal(e)
	}
	for list, keys := range lists {
		for _, key := range slices.Backward(strings.Fields(keys)) {
			if !r.Front(list, key) {
				t.Fatalf("%q has no place in list %d", key, list)
			}
		}
	}
	return r.Export()
}

// stateOf is the state of lists.
func stateOf(most, target int, lists [4][]string) string {
	s := strconv.Itoa(most) + " " + strconv.Itoa(target)
	for _, keys := range lists {
		s += " | " + strings.Join(keys, " ")
	}
	return tidy(s)
}

// tidy is a state with single blanks, so that states can be held against each other.
func tidy(state string) string { return strings.Join(strings.Fields(state), " ") }

// wantState holds all that is told of one against a state.
func wantState(t *testing.T, name string, a *Arc, state string) {
	t.Helper()
	parts := strings.Split(state, "|")
	most, _ := strconv.Atoi(strings.Fields(parts[0])[0])
	if got := stateOf(most, a.Target(), a.Lists()); got != tidy(state) {
		t.Errorf("%s: it is %s, not %s", name, got, tidy(state))
		return
	}
	if a.Export() != stateBytes(t, state) {
		t.Errorf("%s: the bytes are %x, not %x", name, a.Export(), stateBytes(t, state))
	}
	kept := 0
	for list, keys := range a.Lists() {
		for _, key := range keys {
			if a.Has(key) != (list < 2) {
				t.Errorf("%s: Has(%q) is %v", name, key, a.Has(key))
			}
		}
		if list < 2 {
			kept += len(keys)
		}
	}
	if a.Len() != kept {
		t.Errorf("%s: %d are kept, not %d", name, a.Len(), kept)
	}
}

// wantGone holds the keys that go against a text; "-": none.
func wantGone(t *testing.T, name string, gone []string, want string) {
	t.Helper()
	if want == "-" && len(gone) == 0 {
		return
	}
	if len(gone) != 1 || gone[0] != want {
		t.Errorf("%s: %q go, not %s", name, gone, want)
	}
}

// bytesOf is the bytes of base 16, blanks aside.
func bytesOf(t *testing.T, text string) string {
	t.Helper()
	b, err := hex.DecodeString(strings.ReplaceAll(text, " ", ""))
	if err != nil {
		t.Fatal(err)
	}
	return string(b)
}

func fresh(t *testing.T, most int) *Arc {
	t.Helper()
	a, e := New(most)
	if e != api.OK || a == nil {
		t.Fatalf("New(%d) is %v, %d", most, a, e)
	}
	return a
}

func TestNewOfSoMany(t *testing.T) {
	for _, most := range []int{1, 2, 100, api.MostEntries} {
		a := fresh(t, most)
		wantState(t, "new", a, strconv.Itoa(most)+" 0 | | | |")
		for i := range most {
			wantGone(t, "filled", a.Insert(strconv.Itoa(i)), "-")
		}
		wantGone(t, "full", a.Insert("one more"), "0")
		if a.Len() != most {
			t.Errorf("%d are kept, not %d", a.Len(), most)
		}
	}
	for _, most := range []int{0, -1, smallest, api.MostEntries + 1, greatest} {
		if a, e := New(most); a != nil || e != api.ErrInput {
			t.Errorf("New(%d) is %v, %d", most, a, e)
		}
	}
}

func TestFirstSteps(t *testing.T) {
	a := fresh(t, 2)
	for _, x := range []struct{ do, key, gone, state string }{
		{"insert", "a", "-", "2 0 | a | | |"},
		{"insert", "b", "-", "2 0 | b a | | |"},
		{"insert", "c", "a", "2 0 | c b | | |"}, // a is forgotten: of those asked for once there are as many as may be known
		{"touch", "b", "-", "2 0 | c | b | |"},
		{"insert", "d", "c", "2 0 | d | b | c |"},
		{"insert", "c", "b", "2 1 | d | c | | b"},
		{"insert", "b", "d", "2 0 | | b c | d |"},
		{"insert", "b", "-", "2 0 | | b c | d |"},
		{"insert", "c", "-", "2 0 | | c b | d |"},
		{"insert", "e", "b", "2 0 | e | c | d | b"},
		{"insert", "f", "e", "2 0 | f | c | e | b"}, // d is forgotten
		{"insert", "d", "f", "2 0 | d | c | f | b"},
		{"insert", "b", "d", "2 0 | | b c | d f |"},
	} {
		name := x.do + " " + x.key
		if x.do == "touch" {
			if !a.Touch(x.key) {
				t.Errorf("%s: it is not kept", name)
			}
		} else {
			wantGone(t, name, a.Insert(x.key), x.gone)
		}
		wantState(t, name, a, x.state)
	}
}

func TestTheExampleOfTheChapter(t *testing.T) {
	a := fresh(t, 1)
	wantGone(t, "a", a.Insert("a"), "-")
	wantGone(t, "b", a.Insert("b"), "a")
	wantState(t, "b", a, "1 0 | b | | |")
}

func TestTouchOfKeysThatAreKept(t *testing.T) {
	const state = "4 2 | a b | c d | e f | g h"
	for _, x := range []struct {
		key  string
		kept bool
		want string
	}{
		{"a", true, "4 2 | b | a c d | e f | g h"},
		{"b", true, "4 2 | a | b c d | e f | g h"},
		{"c", true, "4 2 | a b | c d | e f | g h"},
		{"d", true, "4 2 | a b | d c | e f | g h"},
		{"e", false, state},
		{"f", false, state},
		{"g", false, state},
		{"h", false, state},
		{"x", false, state},
		{"", false, state},
		{strings.Repeat("a", api.MostKey+1), false, state},
	} {
		a := laid(t, state)
		if kept := a.Touch(x.key); kept != x.kept || a.Has(x.key) != x.kept {
			t.Errorf("%.10q is kept: %v, %v", x.key, kept, a.Has(x.key))
		}
		wantState(t, "touch "+x.key, a, x.want)
	}
}

func TestInsertOfKeysThatAreKept(t *testing.T) {
	const state = "4 2 | a b | c d | e f | g h"
	for _, x := range []struct{ key, want string }{
		{"a", "4 2 | b | a c d | e f | g h"},
		{"b", "4 2 | a | b c d | e f | g h"},
		{"c", "4 2 | a b | c d | e f | g h"},
		{"d", "4 2 | a b | d c | e f | g h"},
	} {
		a := laid(t, state)
		wantGone(t, x.key, a.Insert(x.key), "-")
		wantState(t, "insert "+x.key, a, x.want)
	}
}

func TestInsertOfKeysThatWentFromThoseAskedForOnce(t *testing.T) {
	for _, x := range []struct{ name, state, key, gone, want string }{
		{"the target grows by 1", "4 1 | a b c | d | e | f", "e", "c", "4 2 | a b | e d | c | f"},
		{"1, if there are as many", "5 1 | a b | c d e | f g | h i", "f", "e", "5 2 | a b | f c d | g | e h i"},
		{"1, if there are fewer of the others", "5 1 | a b | c d e | f g h | i", "h", "e", "5 2 | a b | h c d | f g | e i"},
		{"1, if there are none", "3 0 | a b | c | d |", "d", "b", "3 1 | a | d c | b |"},
		{"by three times as many", "5 1 | a b c | d e | f | g h i", "f", "e", "5 4 | a b c | f d | | e g h i"},
		{"cut, not rounded", "7 1 | a b c d | e n o | g h | i j k l m", "h", "d", "7 3 | a b c | h e n o | d g | i j k l m"},
		{"cut to 1", "6 1 | a b c d | e f | g h | i j k", "g", "d", "6 2 | a b c | g e f | d h | i j k"},
		{"to c at most, by 1", "3 3 | a b | c | d |", "d", "c", "3 3 | a b | d | | c"},
		{"to c at most", "5 4 | a | b c d e | f | g h i j", "f", "e", "5 5 | a | f b c d | | e g h i j"},
		{"to c", "5 1 | a | b c d e | f | g h i j", "f", "e", "5 5 | a | f b c d | | e g h i j"},
		{"as many as the target then", "3 1 | a b | c | d |", "d", "c", "3 2 | a b | d | | c"},
		{"one more than the target then", "4 1 | a b c | d | e |", "e", "c", "4 2 | a b | e d | c |"},
		{"none that was asked for once", "2 0 | | a b | c d |", "d", "b", "2 1 | | d a | c | b"},
		{"the last of the one and the first of the other", "3 0 | a b | c | d | e", "d", "b", "3 1 | a | d c | b | e"},
		{"fewer than c are kept", "3 0 | a | b | c | d", "c", "-", "3 1 | a | c b | | d"},
		{"none is kept", "3 0 | | | a b | c d", "a", "-", "3 1 | | a | b | c d"},
		{"none is kept, others went", "3 0 | | | a | b c d", "a", "-", "3 3 | | a | | b c d"},
		{"c is 1", "1 0 | | a | b |", "b", "a", "1 1 | | b | | a"},
	} {
		a := laid(t, x.state)
		wantGone(t, x.name, a.Insert(x.key), x.gone)
		wantState(t, x.name, a, x.want)
	}
}

func TestInsertOfKeysThatWentFromThoseAskedForMoreOften(t *testing.T) {
	for _, x := range []struct{ name, state, key, gone, want string }{
		{"the target falls by 1", "4 3 | a | b c d | e | f", "f", "d", "4 2 | a | f b c | e | d"},
		{"1, if there are none", "3 3 | a | b c | | d", "d", "c", "3 2 | a | d b | | c"},
		{"1, if there are fewer of the others", "4 3 | a | b c d | e | f g", "g", "d", "4 2 | a | g b c | e | d f"},
		{"by three times as many", "5 5 | a | b c d e | f g h | i", "i", "e", "5 2 | a | i b c d | f g h | e"},
		{"cut, not rounded", "8 8 | a | b c d e f g h | i j k l m | n o", "o", "h", "8 6 | a | o b c d e f g | i j k l m | h n"},
		{"cut to 1", "6 6 | a | b c d e f | g h i | j k", "j", "f", "6 5 | a | j b c d e | g h i | f k"},
		{"to 0 at least, by 1", "3 0 | a | b c | | d", "d", "a", "3 0 | | d b c | a |"},
		{"to 0 at least", "5 2 | a | b c d e | f g h | i", "i", "a", "5 0 | | i b c d e | a f g h |"},
		{"to 0", "5 3 | a | b c d e | f g h | i", "i", "a", "5 0 | | i b c d e | a f g h |"},
		{"more than the target then", "3 1 | a | b c | | d", "d", "a", "3 0 | | d b c | a |"},
		{"as many as the target then", "3 2 | a | b c | | d", "d", "a", "3 1 | | d b c | a |"},
		{"as many as the target then, of two", "4 3 | a b | c d | e | f", "f", "b", "4 2 | a | f c d | b e |"},
		{"fewer than the target then", "3 3 | a | b c | | d", "d", "c", "3 2 | a | d b | | c"},
		{"none that was asked for once", "2 0 | | a b | | c", "c", "b", "2 0 | | c a | | b"},
		{"none that was asked for once, and a target", "2 2 | | a b | | c", "c", "b", "2 1 | | c a | | b"},
		{"none that was asked for more often", "2 2 | a b | | | c", "c", "b", "2 1 | a | c | b |"},
		{"fewer than c are kept", "3 3 | a | b | c | d", "d", "-", "3 2 | a | d b | c |"},
		{"none is kept", "3 3 | | | a b c | d e", "e", "-", "3 2 | | e | a b c | d"},
		{"c is 1", "1 1 | a | | | b", "b", "a", "1 0 | | b | a |"},
	} {
		a := laid(t, x.state)
		wantGone(t, x.name, a.Insert(x.key), x.gone)
		wantState(t, x.name, a, x.want)
	}
}

func TestInsertOfNewKeys(t *testing.T) {
	for _, x := range []struct{ name, state, gone, want string }{
		{"fewer than c in all", "3 1 | a | b | |", "-", "3 1 | x a | b | |"},
		{"fewer than c in all, some went", "4 1 | a | b | c |", "-", "4 1 | x a | b | c |"},
		{"c in all, fewer are kept", "3 1 | a | b | | c", "-", "3 1 | x a | b | | c"},
		{"c in all, all are kept", "3 1 | a b | c | |", "b", "3 1 | x a | c | b |"},
		{"c in all, all are kept, as many as the target", "3 2 | a b | c | |", "c", "3 2 | x a b | | | c"},
		{"c in all, all are kept, a target of all", "3 3 | a b | c | |", "c", "3 3 | x a b | | | c"},
		{"none asked for once", "2 0 | | a b | |", "b", "2 0 | x | a | | b"},
		{"one less than 2 c in all", "2 0 | a | b | | c", "a", "2 0 | x | b | a | c"},
		{"2 c in all", "2 0 | | a b | | c d", "b", "2 0 | x | a | | b c"},
		{"2 c in all, the target holds", "3 1 | a | b c | d | e f", "c", "3 1 | x a | b | d | c e"},
		{"2 c in all, the target does not", "3 0 | a | b c | d | e f", "a", "3 0 | x | b c | a d | e"},
		{"2 c in all, fewer are kept", "3 0 | a | b | d | c e f", "-", "3 0 | x a | b | d | c e"},
		{"2 c in all, none is kept", "2 0 | | | a | b c d", "-", "2 0 | x | | a | b c"},
		{"c asked for once, some of them went", "3 1 | a b | c | d |", "b", "3 1 | x a | c | b |"},
		{"the last that went is forgotten", "4 1 | a b | c d | e f |", "b", "4 1 | x a | c d | b e |"},
		{"and the target holds", "4 2 | a b | c d | e f |", "d", "4 2 | x a b | c | e | d"},
		{"and others went", "3 1 | a b | c | d | e f", "b", "3 1 | x a | c | b | e f"},
		{"and others went, as many as may be known", "3 1 | a | b c | d e | f", "c", "3 1 | x a | b | d | c f"},
		{"and fewer are kept", "3 1 | a | b | c d |", "-", "3 1 | x a | b | c |"},
		{"and none is kept", "2 0 | | | a b |", "-", "2 0 | x | | a |"},
		{"all were asked for once", "3 0 | a b c | | |", "c", "3 0 | x a b | | |"},
		{"all were asked for once, a target of all", "3 3 | a b c | | |", "c", "3 3 | x a b | | |"},
		{"all were asked for once, others went", "2 1 | a b | | | c d", "b", "2 1 | x a | | | c d"},
		{"c is 1, once", "1 0 | a | | |", "a", "1 0 | x | | |"},
		{"c is 1, more often", "1 1 | | a | |", "a", "1 1 | x | | | a"},
		{"c is 1, more often, one went", "1 1 | | a | b |", "a", "1 1 | x | | | a"},
		{"c is 1, more often, another one went", "1 0 | | a | | b", "a", "1 0 | x | | | a"},
	} {
		a := laid(t, x.state)
		wantGone(t, x.name, a.Insert("x"), x.gone)
		wantState(t, x.name, a, x.want)
	}
}

func TestInsertOfKeysOfAnyBytes(t *testing.T) {
	long := strings.Repeat("k", api.MostKey)
	a := laid(t, "2 1 | a | b | c | d")
	for _, key := range []string{long + "k", strings.Repeat(long, 1000)} {
		wantGone(t, "too long", a.Insert(key), "-")
		wantState(t, "too long", a, "2 1 | a | b | c | d")
		if a.Has(key) || a.Touch(key) || a.Remove(key) {
			t.Error("a key that is too long is kept")
		}
	}
	wantGone(t, "the longest", a.Insert(long), "b")
	wantState(t, "the longest", a, "2 1 | "+long+" a | | | b d")
	keys := []string{"", "\x00", "\xff\xfe", " ", "é", strings.Repeat("\x80", api.MostKey)}
	a = fresh(t, len(keys))
	for _, key := range keys {
		if a.Has(key) {
			t.Errorf("%q is kept", key)
		}
		wantGone(t, "room", a.Insert(key), "-")
		if !a.Has(key) {
			t.Errorf("%q is not kept", key)
		}
	}
	slices.Reverse(keys)
	if got := a.Lists(); !slices.Equal(got[0], keys) {
		t.Errorf("the keys are %q", got)
	}
	wantSame(t, a)
	for _, want := range slices.Backward(keys) {
		if key, ok := a.Evict(); key != want || !ok {
			t.Errorf("%q, %v went, not %q", key, ok, want)
		}
	}
}

func TestRemoveFromWhicheverList(t *testing.T) {
	const state = "4 2 | a b | c d | e f | g h"
	for _, x := range []struct {
		key  string
		kept bool
		want string
	}{
		{"a", true, "4 2 | b | c d | e f | g h"},
		{"b", true, "4 2 | a | c d | e f | g h"},
		{"c", true, "4 2 | a b | d | e f | g h"},
		{"d", true, "4 2 | a b | c | e f | g h"},
		{"e", false, "4 2 | a b | c d | f | g h"},
		{"f", false, "4 2 | a b | c d | e | g h"},
		{"g", false, "4 2 | a b | c d | e f | h"},
		{"h", false, "4 2 | a b | c d | e f | g"},
		{"x", false, state},
		{"", false, state},
		{strings.Repeat("a", api.MostKey+1), false, state},
	} {
		a := laid(t, state)
		if kept := a.Remove(x.key); kept != x.kept {
			t.Errorf("%.10q was kept: %v", x.key, kept)
		}
		wantState(t, "remove "+x.key, a, x.want)
		if a.Remove(x.key) || a.Has(x.key) {
			t.Errorf("%.10q is still kept", x.key)
		}
		wantState(t, "remove again "+x.key, a, x.want)
	}
}

func TestRemoveMakesRoom(t *testing.T) {
	a := laid(t, "2 0 | a | b | c | d")
	a.Remove("b")
	wantGone(t, "room", a.Insert("x"), "-")
	wantState(t, "room", a, "2 0 | x a | | | d")
	a.Remove("d")
	wantGone(t, "as if it had not been", a.Insert("d"), "a")
	wantState(t, "as if it had not been", a, "2 0 | d x | | |")
}

func TestEvictByReplace(t *testing.T) {
	for _, x := range []struct{ name, state, gone, want string }{
		{"more than the target", "4 1 | a b | c d | e | f", "b", "4 1 | a | c d | b e | f"},
		{"as many as the target", "4 2 | a b | c d | e | f", "d", "4 2 | a b | c | e | d f"},
		{"fewer", "4 3 | a b | c d | e | f", "d", "4 3 | a b | c | e | d f"},
		{"no target", "4 0 | a | b c d | |", "a", "4 0 | | b c d | a |"},
		{"none asked for once", "4 0 | | a b | c | d", "b", "4 0 | | a | c | b d"},
		{"none asked for once, and a target", "4 2 | | a b | c | d", "b", "4 2 | | a | c | b d"},
		{"none asked for more often, fewer", "4 4 | a b | | c | d", "b", "4 4 | a | | b c | d"},
		{"none asked for more often, as many", "4 2 | a b | | c | d", "b", "4 2 | a | | b c | d"},
		{"none asked for more often, more", "4 1 | a b | | c | d", "b", "4 1 | a | | b c | d"},
		{"all that may be known", "2 1 | a b | | | c d", "b", "2 1 | a | | b | c d"},
		{"all that may be known, of the others", "2 1 | a | b | c | d", "b", "2 1 | a | | c | b d"},
		{"just one, once", "1 1 | a | | | b", "a", "1 1 | | | a | b"},
		{"just one, more often", "1 0 | | a | b |", "a", "1 0 | | | b | a"},
	} {
		a := laid(t, x.state)
		if gone, ok := a.Evict(); gone != x.gone || !ok {
			t.Errorf("%s: %q, %v goes, not %s", x.name, gone, ok, x.gone)
		}
		wantState(t, x.name, a, x.want)
	}
	for _, state := range []string{"3 0 | | | |", "3 2 | | | a b c | d e f", "1 1 | | | | a"} {
		a := laid(t, state)
		if gone, ok := a.Evict(); gone != "" || ok {
			t.Errorf("%s: %q, %v goes", state, gone, ok)
		}
		wantState(t, "none is kept", a, state)
	}
}

// What went by Evict is known: it moves the target when it comes again.
func TestEvictRemembers(t *testing.T) {
	a := fresh(t, 3)
	for _, key := range []string{"a", "b", "c"} {
		a.Insert(key)
	}
	a.Touch("b")
	for _, want := range []string{"a", "c", "b"} {
		if gone, ok := a.Evict(); gone != want || !ok || a.Has(want) {
			t.Errorf("%q, %v goes, not %s", gone, ok, want)
		}
	}
	wantState(t, "evicted", a, "3 0 | | | c a | b")
	wantGone(t, "a", a.Insert("a"), "-")
	wantState(t, "a", a, "3 1 | | a | c | b")
}

func TestWhatIsToldIsTheCallers(t *testing.T) {
	const state = "2 1 | a | b | c | d"
	a := laid(t, state)
	lists := a.Lists()
	for list := range lists {
		lists[list][0] = "spoilt"
	}
	wantState(t, "lists", a, state)
	lists = a.Lists()
	gone := a.Insert("x")
	wantGone(t, "x", gone, "b")
	gone[0] = "spoilt"
	wantState(t, "gone", a, "2 1 | x a | | | b d")
	if got := stateOf(2, 1, lists); got != tidy(state) {
		t.Errorf("what is done later changes what was told: %s", got)
	}
}

// plain is the chapter's words in the plainest way: to hold long walks against.
type plain struct {
	c, p int
	l    [4][]string    // T1, T2, B1, B2
	gone []string       // by the last call
	ways map[string]int // how often it came by each of the chapter's branches
}

func (m *plain) find(key string) int {
	for list, keys := range m.l {
		if slices.Contains(keys, key) {
			return list
		}
	}
	return -1
}

func (m *plain) drop(key string) {
	for list, keys := range m.l {
		m.l[list] = slices.DeleteFunc(keys, func(k string) bool { return k == key })
	}
}

func (m *plain) front(list int, key string) {
	m.drop(key)
	m.l[list] = slices.Insert(m.l[list], 0, key)
}

func (m *plain) last(list int) string { return m.l[list][len(m.l[list])-1] }

func (m *plain) kept() int { return len(m.l[0]) + len(m.l[1]) }

func (m *plain) replace(wasB2 bool) {
	n := len(m.l[0])
	from := 1
	if n > 0 && (n > m.p || n == m.p && wasB2 || len(m.l[1]) == 0) {
		from = 0
	}
	key := m.last(from)
	m.front(from+2, key)
	m.gone = append(m.gone, key)
	m.ways["replace "+strconv.Itoa(from)]++
}

func (m *plain) replaceIfFull(wasB2 bool) {
	if m.kept() == m.c {
		m.replace(wasB2)
	}
}

func (m *plain) insert(key string) []string {
	m.gone = nil
	one, two := len(m.l[2]), len(m.l[3])
	at := m.find(key)
	m.ways["in list "+strconv.Itoa(at)]++
	switch at {
	case 0, 1:
		m.front(1, key)
	case 2:
		m.p = min(m.p+max(1, two/one), m.c)
		m.replaceIfFull(false)
		m.front(1, key)
	case 3:
		m.p = max(m.p-max(1, one/two), 0)
		m.replaceIfFull(true)
		m.front(1, key)
	default:
		m.insertNew()
		m.front(0, key)
	}
	return m.gone
}

func (m *plain) insertNew() {
	once, all := len(m.l[0])+len(m.l[2]), m.kept()+len(m.l[2])+len(m.l[3])
	if once >= m.c {
		if len(m.l[0]) < m.c {
			m.ways["b1 forgets"]++
			m.drop(m.last(2))
			m.replaceIfFull(false)
		} else {
			m.ways["t1 forgets"]++
			m.gone = append(m.gone, m.last(0))
			m.drop(m.last(0))
		}
	} else if all >= m.c {
		if all == 2*m.c {
			m.ways["b2 forgets"]++
			m.drop(m.last(3))
		}
		m.replaceIfFull(false)
	}
}

func (m *plain) evict() (string, bool) {
	m.gone = nil
	if m.kept() == 0 {
		m.ways["none to evict"]++
		return "", false
	}
	m.replace(false)
	return m.gone[0], true
}

// wantLaws holds the sizes that the chapter's words come to.
func (m *plain) wantLaws(t *testing.T, name string) {
	t.Helper()
	all := m.kept() + len(m.l[2]) + len(m.l[3])
	if m.kept() > m.c || len(m.l[0])+len(m.l[2]) > m.c || all > 2*m.c || m.p < 0 || m.p > m.c {
		t.Fatalf("%s: %s", name, stateOf(m.c, m.p, m.l))
	}
}

// walk does the same to both, for so many steps, and holds them against each other at each one.
func walk(t *testing.T, a *Arc, m *plain, keys, steps int) *Arc {
	t.Helper()
	chance := uint64(m.c*1000 + keys)
	for step := range steps {
		chance = chance*6364136223846793005 + 1442695040888963407
		key := "k" + strconv.Itoa(int(chance>>33)%keys)
		if chance>>43&3 == 0 { // some are asked for more often
			key = "k" + strconv.Itoa(int(chance>>33)%max(1, m.c/2))
		}
		name := strconv.Itoa(m.c) + ", step " + strconv.Itoa(step) + ", " + key
		at := m.find(key)
		switch do := chance >> 58; { // of 64
		case do < 44:
			if gone := a.Insert(key); !slices.Equal(gone, m.insert(key)) {
				t.Fatalf("%s: %q go, not %q", name, gone, m.gone)
			}
		case do < 56:
			if a.Touch(key) != (at == 0 || at == 1) {
				t.Fatalf("%s: touched, and it is in list %d", name, at)
			} else if at == 0 || at == 1 {
				m.front(1, key)
			}
		case do < 60:
			if a.Remove(key) != (at == 0 || at == 1) {
				t.Fatalf("%s: removed, and it is in list %d", name, at)
			}
			m.drop(key)
		default:
			want, some := m.evict()
			if gone, ok := a.Evict(); gone != want || ok != some {
				t.Fatalf("%s: %q, %v goes, not %q", name, gone, ok, want)
			}
		}
		m.wantLaws(t, name)
		if a.Has(key) != (m.find(key) == 0 || m.find(key) == 1) {
			t.Fatalf("%s: Has is %v", name, a.Has(key))
		}
		wantState(t, name, a, stateOf(m.c, m.p, m.l))
		if t.Failed() {
			t.FailNow()
		}
		if step%101 == 0 {
			a = wantSame(t, a)
		}
	}
	return a
}

func TestALongWalk(t *testing.T) {
	ways := map[string]int{}
	for _, x := range []struct{ c, keys, steps int }{
		{1, 3, 2000}, {2, 6, 3000}, {3, 5, 2000}, {3, 10, 3000}, {5, 14, 3000}, {8, 20, 3000}, {20, 60, 3000}, {50, 60, 1000},
	} {
		walk(t, fresh(t, x.c), &plain{c: x.c, ways: ways}, x.keys, x.steps)
	}
	for _, way := range []string{
		"in list -1", "in list 0", "in list 1", "in list 2", "in list 3",
		"replace 0", "replace 1", "t1 forgets", "b1 forgets", "b2 forgets", "none to evict",
	} {
		if ways[way] < 5 {
			t.Errorf("the walks come by way %q %d times", way, ways[way])
		}
	}
}

// wantSame is what comes back of one's bytes.
func wantSame(t *testing.T, a *Arc) *Arc {
	t.Helper()
	same, e := Import(a.Export())
	if e != api.OK || same.Export() != a.Export() {
		t.Fatalf("another one comes back: %v, %d", same, e)
	}
	return same
}

func TestExportHasNumbersAndRings(t *testing.T) {
	for _, x := range []struct{ name, state, want string }{
		{"nothing", "1 0 | | | |", "01 00 04 03 00 00 00 00"},
		{"a target", "2 1 | | | |", "02 01 04 05 00 00 00 00"},
		{"all lists", "3 2 | a bc | d | e | f g", "03 02 04 07 02 0161 026263 01 0164 01 0165 02 0166 0167"},
		{"as many as may be", "1000 1000 | | | |", "e807 e807 04 d10f 00 00 00 00"},
	} {
		if got := laid(t, x.state).Export(); got != bytesOf(t, x.want) {
			t.Errorf("%s: the bytes are %x, not %s", x.name, got, x.want)
		}
	}
	a := fresh(t, 300)
	a.Insert("a")
	a.Insert("")
	a.Touch("a")
	if got, want := a.Export(), bytesOf(t, "ac02 00 04 d904 01 00 01 0161 00 00"); got != want {
		t.Errorf("the bytes are %x, not %x", got, want)
	}
}

func TestImportGoesOnAsItWas(t *testing.T) {
	for _, state := range []string{"1 0 | | | |", "3 2 | a | k1 k2 | k3 k4 | k5", "4 0 | | | | a b c d k6", "2 2 | a b | | | c d"} {
		a := laid(t, state)
		before := a.Export()
		same := wantSame(t, a)
		insertRow(a)
		if same.Export() != before {
			t.Error("what is done to the one is done to the other")
		}
		insertRow(same)
		if a.Export() != same.Export() {
			t.Errorf("%s: it goes on otherwise", state)
		}
	}
}

// insertRow inserts a row of keys, some of them more often.
func insertRow(a *Arc) {
	for i := range 20 {
		a.Insert("k" + strconv.Itoa(i*i%7))
	}
}

func TestImportOfTheFullest(t *testing.T) {
	const most = api.MostEntries
	key := func(i int) string {
		n := strconv.Itoa(i)
		return n + strings.Repeat("k", api.MostKey-len(n))
	}
	for _, sizes := range [][4]int{
		{most, 0, 0, most}, {0, most, most, 0}, {most / 2, most / 2, most / 2, most / 2}, {0, 0, 0, 2 * most}, {0, most, 0, most}, {1, most - 1, most - 1, 1},
	} {
		bytes := wire.Num(most) + wire.Num(most) + wire.Num(4) + wire.Num(2*most+1)
		next := 0
		for _, size := range sizes {
			bytes += wire.Num(uint64(size))
			for range size {
				bytes += wire.Text(key(next))
				next++
			}
		}
		a, e := Import(bytes)
		if e != api.OK || a.Export() != bytes || a.Target() != most || a.Len() != sizes[0]+sizes[1] {
			t.Fatalf("%v: %d", sizes, e)
		}
		for i := range 100 {
			a.Insert("new" + strconv.Itoa(i))
		}
		wantSame(t, a)
	}
}

func TestImportTellsWhatCantBe(t *testing.T) {
	for _, x := range []struct {
		name, s string
		want    api.Errno
	}{
		{"three are kept at most", "03 02 04 07 01 0161 00 00 01 0162", api.OK},
		{"nothing", "", api.ErrShort},
		{"c is 0", "00", api.ErrForm}, // ahead of the bytes' end
		{"c is 0, and all the rest", "00 00 04 01 00 00 00 00", api.ErrForm},
		{"c is 0, and a target above it", "00 01", api.ErrForm},
		{"c is 0, and a wrong target", "00 8000", api.ErrForm},
		{"c not in its shortest form", "8100", api.ErrForm},
		{"c of 65 bits", "80808080808080808002", api.ErrForm},
		{"just c", "03", api.ErrShort},
		{"half of c", "83", api.ErrShort},
		{"the greatest c", "e807 00 04 d10f 00 00 00 00", api.OK},
		{"c too great", "e907", api.ErrOver}, // ahead of the bytes' end
		{"c too great, and all the rest", "e907 00 04 d30f 00 00 00 00", api.ErrOver},
		{"c much too great", "ffffffffffffffffff01", api.ErrOver},
		{"the greatest target", "03 03 04 07 00 00 00 00", api.OK},
		{"a target above c", "03 04", api.ErrOver},
		{"a target above c, and all the rest", "03 04 04 07 00 00 00 00", api.ErrOver},
		{"a target above c ahead of wrong rings", "03 04 00 00", api.ErrOver},
		{"a target much too great", "03 ffffffffffffffffff01", api.ErrOver},
		{"a target not in its shortest form", "03 8100", api.ErrForm},
		{"no rings", "03 02", api.ErrShort},
		{"rings without a list", "03 02 00 07", api.ErrForm},
		{"too many lists", "03 02 09", api.ErrOver},
		{"too many places", "03 02 04 8120", api.ErrOver},
		{"more keys than places", "03 02 04 07 08", api.ErrOver},
		{"too long a key", "03 02 04 07 01 41", api.ErrOver},
		{"a key twice", "03 02 04 07 01 0161 00 01 0161", api.ErrForm},
		{"three lists", "03 02 03 07 00 00 00", api.ErrForm},
		{"three lists, cut", "03 02 03 07 00 00", api.ErrShort}, // it is asked behind all
		{"three lists, a byte too many", "03 02 03 07 00 00 00 00", api.ErrForm},
		{"five lists", "03 02 05 07 00 00 00 00 00", api.ErrForm},
		{"five lists, cut", "03 02 05 07 00 00 00 00", api.ErrShort},
		{"one list", "03 02 01 07 00", api.ErrForm},
		{"eight lists", "03 02 08 07 0000000000000000", api.ErrForm},
		{"a place too few", "03 02 04 06 00 00 00 00", api.ErrForm},
		{"a place too few, some taken", "03 02 04 06 01 0161 01 0162 00 00", api.ErrForm},
		{"a place too many", "03 02 04 08 00 00 00 00", api.ErrForm},
		{"a place too many, one taken", "03 02 04 08 01 0161 00 00 00", api.ErrForm},
		{"a place too many, cut", "03 02 04 08 00 00 00", api.ErrShort},
		{"no places", "03 02 04 00 00 00 00 00", api.ErrForm},
		{"a place too many, and too long a key behind", "03 02 04 08 00 00 00 01 41", api.ErrOver},
		{"a byte too many", "03 02 04 07 00 00 00 00 00", api.ErrExtra},
		{"a place too many, a byte too many", "03 02 04 08 00 00 00 00 00", api.ErrForm},
	} {
		a, e := Import(bytesOf(t, x.s))
		if e != x.want || (a != nil) != (e == api.OK) {
			t.Errorf("%s: %v, %d, not %d", x.name, a, e, x.want)
		}
	}
}

func TestImportTellsListsThatHaveTooMany(t *testing.T) {
	for _, x := range []struct {
		name, state string
		want        api.Errno
	}{
		{"c in the first list", "2 0 | a b | | |", api.OK},
		{"more in the first list", "2 0 | a b c | | |", api.ErrForm},
		{"c in the second list", "2 0 | | a b | |", api.OK},
		{"more in the second list", "2 0 | | a b c | |", api.ErrForm},
		{"c are kept", "2 0 | a | b | |", api.OK},
		{"more than c are kept", "2 0 | a | b c | |", api.ErrForm},
		{"more than c are kept, of the others", "2 0 | a b | c | |", api.ErrForm},
		{"c in the third list", "2 0 | | | a b |", api.OK},
		{"more in the third list", "2 0 | | | a b c |", api.ErrForm},
		{"c asked for once", "2 0 | a | | b |", api.OK},
		{"more asked for once", "2 0 | a | | b c |", api.ErrForm},
		{"more asked for once, all that are kept", "2 0 | a b | | c |", api.ErrForm},
		{"2 c asked for more often", "2 0 | | a b | | c d", api.OK},
		{"2 c in the fourth list", "2 0 | | | | a b c d", api.OK},
		{"more in the fourth list", "2 0 | | | | a b c d e", api.ErrForm},
		{"2 c in all", "2 0 | a | b | c | d", api.OK},
		{"more in all", "2 0 | a | b | c | d e", api.ErrForm},
		{"more in all, none in one", "2 0 | | a b | c | d e", api.ErrForm},
		{"2 c in all, c is 1", "1 0 | a | | | b", api.OK},
		{"more in all, c is 1", "1 0 | | a | b | c", api.ErrForm},
	} {
		bytes := stateBytes(t, x.state)
		a, e := Import(bytes)
		if e != x.want || (a != nil) != (e == api.OK) {
			t.Errorf("%s: %v, %d, not %d", x.name, a, e, x.want)
		}
		if e == api.OK {
			wantState(t, x.name, a, x.state)
		}
		extra := x.want
		if extra == api.OK {
			extra = api.ErrExtra
		}
		if a, e := Import(bytes + "\x00"); a != nil || e != extra {
			t.Errorf("%s, and a byte too many: %v, %d, not %d", x.name, a, e, extra)
		}
	}
}

func TestImportOfBytesThatEnd(t *testing.T) {
	all := laid(t, "300 200 | a bc "+strings.Repeat("d", 64)+" | e | | f g h").Export()
	for n := range all {
		if a, e := Import(all[:n]); a != nil || e != api.ErrShort {
			t.Errorf("%d bytes of %d: %v, %d", n, len(all), a, e)
		}
	}
}

func TestTakeLeavesWhatIsBehind(t *testing.T) {
	const one, two = "3 1 | a | b c | | d", "2 2 | | | a |"
	e := wire.Read("x"+stateBytes(t, one)+stateBytes(t, two)+"yz", func(r *wire.Reader) {
		r.Bytes(1)
		wantState(t, "the first one", Take(r), one)
		wantState(t, "the second one", Take(r), two)
		if r.Left() != 2 || r.Bytes(2) != "yz" {
			t.Error("left:", r.Left())
		}
	})
	if e != api.OK {
		t.Error(e)
	}
}

func TestTakeEndsTheReading(t *testing.T) {
	for _, x := range []struct {
		s    string
		want api.Errno
	}{
		{"", api.ErrShort},
		{"00", api.ErrForm},
		{"e907", api.ErrOver},
		{"03 04", api.ErrOver},
		{"03 03 09", api.ErrOver},
		{"03 03 03 07 00 00 00", api.ErrForm},
		{"03 03 04 06 00 00 00 00", api.ErrForm},
		{"01 00 04 03 02 0161 0162 00 00 00", api.ErrForm},
		{"03 03 04 07 00 00 00", api.ErrShort},
	} {
		e := wire.Read(bytesOf(t, x.s), func(r *wire.Reader) {
			Take(r)
			t.Errorf("%s: it goes on", x.s)
		})
		if e != x.want {
			t.Errorf("%s: %d, not %d", x.s, e, x.want)
		}
	}
}

func TestTakeWhereNothingIsRead(t *testing.T) {
	var over *wire.Reader
	wire.Read(stateBytes(t, "3 1 | a | | |"), func(r *wire.Reader) { over = r })
	for _, r := range []*wire.Reader{nil, {}, over} {
		if a := Take(r); a != nil {
			t.Errorf("%v", a)
		}
	}
}

func TestNilHasNothing(t *testing.T) {
	for _, a := range []*Arc{nil, {}} {
		wantGone(t, "nil", a.Insert("a"), "-")
		wantGone(t, "nil", a.Insert(""), "-")
		gone, ok := a.Evict()
		if a.Has("a") || a.Touch("a") || a.Remove("a") || gone != "" || ok {
			t.Errorf("%v: a key is kept; %q, %v goes", a, gone, ok)
		}
		if a.Len() != 0 || a.Target() != 0 || a.Export() != "" {
			t.Errorf("%v: %d keys, target %d, bytes %x", a, a.Len(), a.Target(), a.Export())
		}
		for _, keys := range a.Lists() {
			if len(keys) != 0 {
				t.Errorf("%v: keys %q", a, keys)
			}
		}
	}
}

func TestTwoShareNothing(t *testing.T) {
	const state = "2 1 | a | b | c | d"
	one, other := laid(t, state), laid(t, state)
	one.Insert("x")
	one.Insert("c")
	one.Remove("a")
	one.Evict()
	wantState(t, "the other", other, state)
}

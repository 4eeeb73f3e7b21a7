package bucket

import (
	"encoding/hex"
	"math"
	"slices"
	"strconv"
	"strings"
	"testing"

	"hawthorn/api"
	"hawthorn/blake"
	"hawthorn/mix"
	"hawthorn/wire"
)

const sumOfNothing = "69217a3079908094e11121d042354a7c1f55b6482ca1a51e1b250dfd1ed0eef9"

// small is entries in all buckets but one.
func small() []api.Entry {
	var l []api.Entry
	for j := range 40 {
		n := strconv.Itoa(j)
		l = append(l, api.Entry{Key: "k" + n, Value: "v" + n, Version: uint64(j + 1), End: uint64(j % 3 * 100)})
	}
	return l
}

// full is as many entries as a cache keeps at most.
func full() []api.Entry {
	var l []api.Entry
	for j := range api.MostEntries {
		value := strings.Repeat(string(rune('a'+j%26)), j*7%300)
		l = append(l, api.Entry{Key: "k" + strconv.Itoa(j), Value: value, Version: uint64(j + 1), End: uint64(j * j % 1000)})
	}
	return l
}

// sums is those of entries, in base 16.
func sums(t *testing.T, l []api.Entry) []string {
	t.Helper()
	told := Sums(l)
	if len(told) != api.Buckets {
		t.Fatalf("%d sums of %d entries", len(told), len(l))
	}
	for n, s := range told {
		if len(s) != api.SumBytes {
			t.Fatalf("sum %d has %d bytes", n, len(s))
		}
		told[n] = hex.EncodeToString([]byte(s))
	}
	return told
}

// wantOne holds entries' sums against those of nothing, but for one bucket.
func wantOne(t *testing.T, name string, l []api.Entry, bucket int, sum string) {
	t.Helper()
	for n, s := range sums(t, l) {
		want := sumOfNothing
		if n == bucket {
			want = sum
		}
		if s != want {
			t.Errorf("%s: sum %d: %s, want %s", name, n, s, want)
		}
	}
}

func wantDiffer(t *testing.T, name string, a, b []string, want ...int) {
	t.Helper()
	if l := Differ(a, b); !slices.Equal(l, want) {
		t.Errorf("%s: %v, want %v", name, l, want)
	}
	if l := Differ(b, a); !slices.Equal(l, want) {
		t.Errorf("%s, the other way round: %v, want %v", name, l, want)
	}
}

func all() []int {
	return []int{0, 1, 2, 3, 4, 5, 6, 7, 8, 9, 10, 11, 12, 13, 14, 15}
}

func TestNumbersOfTheChapter(t *testing.T) {
	if api.Buckets != 16 {
		t.Errorf("%d buckets", api.Buckets)
	}
}

// The numbers were worked out from the document by another program.
func TestBucketsOfKeys(t *testing.T) {
	for key, want := range map[string]int{
		"": 2, "a": 0, "b": 11, "K": 4, "k0": 15, "k1": 3, "k2": 12, "k3": 7, "key": 12, "hawthorn": 12,
		"\x00": 5, "\x00\x00": 11, "\xff": 3, "\u00e4": 5,
		strings.Repeat("x", api.MostKey): 2, strings.Repeat("x", api.MostKey+1): 11,
	} {
		if n := Of(key); n != want {
			t.Errorf("%q: %d, want %d", key, n, want)
		}
	}
}

func TestEachBucketHasAKey(t *testing.T) {
	for bucket, j := range []int{14, 20, 15, 1, 4, 72, 7, 3, 9, 38, 28, 6, 2, 21, 11, 0} {
		if n := Of("k" + strconv.Itoa(j)); n != bucket {
			t.Errorf("k%d: %d, want %d", j, n, bucket)
		}
	}
}

func TestBucketsAreThoseOfMix(t *testing.T) {
	seen := make([]int, api.Buckets)
	for j := range 2000 {
		key := strings.Repeat("x", j%70) + strconv.Itoa(j)
		n := Of(key)
		if n != mix.Place(mix.Of(0, key), 0, 16) {
			t.Fatalf("%q: %d", key, n)
		}
		seen[n]++
	}
	for n, times := range seen {
		if times < 60 || times > 200 {
			t.Errorf("bucket %d has %d keys of 2000", n, times)
		}
	}
}

func TestSumsOfNothing(t *testing.T) {
	for _, l := range [][]api.Entry{nil, {}} {
		wantOne(t, "no entries", l, -1, "")
	}
}

// The sums were worked out from the document by another program.
func TestSumsOfOneEntry(t *testing.T) {
	wantOne(t, "k0", []api.Entry{{Key: "k0", Value: "v", Version: 1}}, 15, "4c4093f42f26b0b0864e00591f49685d629729298547ee32131aa76610bfa3c6")
	wantOne(t, "the entry of zero", []api.Entry{{}}, 2, "4cd90cc0d54239ee5b3fd9989b4ef4cbebbbdd08410758cbd2d291fa364c82d5")
}

func TestWhatASumIsOf(t *testing.T) {
	for _, x := range []api.Entry{
		{Key: "k", Value: "v", Version: 1, End: 2},
		{Key: "k"},
		{Value: "v"},
		{Key: strings.Repeat("x", api.MostKey), Value: strings.Repeat("\xff", api.MostValue), Version: math.MaxUint64, End: math.MaxUint64},
		{Key: strings.Repeat("x", api.MostKey+1), Value: strings.Repeat("y", api.MostValue+1), Version: 127, End: 128},
	} {
		s := wire.Text(x.Key) + wire.Text(x.Value) + wire.Num(x.Version) + wire.Num(x.End)
		wantOne(t, strconv.Quote(x.Key), []api.Entry{x}, Of(x.Key), hex.EncodeToString([]byte(blake.Sum(s))))
	}
}

// The sums were worked out from the document by another program.
func TestEntriesOfOneKeyStayAsTheyStand(t *testing.T) {
	a := api.Entry{Key: "k0", Value: strings.Repeat("x", 200), Version: 300, End: math.MaxUint64}
	b := api.Entry{Key: "k0", Value: "y", Version: 2, End: 5}
	wantOne(t, "a, b", []api.Entry{a, b}, 15, "36acba827f48fe747a3f3f446c15025fe8a3c363e008b6524bc7efaaff75690b")
	wantOne(t, "b, a", []api.Entry{b, a}, 15, "72b76f977c9571c60b428d672d5b35e27464a27984a972994940f59d58d43aee")
	wantDiffer(t, "of one key in another order", Sums([]api.Entry{a, b}), Sums([]api.Entry{b, a}), 15)
}

// They are so many that a sort which is not stable is seen.
func TestManyOfOneKeyStayAsTheyStand(t *testing.T) {
	var l []api.Entry
	text := ""
	for j := range 100 {
		l = append(l, api.Entry{Key: "z", Value: strconv.Itoa(j * 37 % 100)}, api.Entry{Key: "a", Version: uint64(j)})
		text += wire.Text("z") + wire.Text(strconv.Itoa(j*37%100)) + wire.Num(0) + wire.Num(0)
	}
	if Of("a") == Of("z") {
		t.Fatal("these keys must be of two buckets")
	}
	if s := Sums(l)[Of("z")]; s != blake.Sum(text) {
		t.Errorf("entries of one key don't stay as they stand")
	}
}

// Example 1 of the chapter.
func TestAnotherOrderOfTheSameEntries(t *testing.T) {
	l := full()
	want := Sums(l)
	slices.Reverse(l)
	wantDiffer(t, "from the last one on", Sums(l), want)
	for _, step := range []int{3, 7, 333, 501} { // none has a divisor in common with 1000
		other := make([]api.Entry, len(l))
		for j, x := range l {
			other[j*step%len(l)] = x
		}
		wantDiffer(t, "in steps of "+strconv.Itoa(step), Sums(other), want)
	}
}

// Keys go by their bytes: the upper case first, what is not ASCII last.
func TestKeysGoByTheirBytes(t *testing.T) {
	var keys []string
	for _, key := range []string{"", "a", "aa", "B", "\x00", "\x00a", "\xff", "\u00e4", "~", "Z", "b"} {
		for j := range 40 {
			keys = append(keys, key+strconv.Itoa(j))
		}
	}
	var l []api.Entry
	for _, key := range keys {
		l = append(l, api.Entry{Key: key, Version: 1})
	}
	slices.Sort(keys)
	texts := make([]string, api.Buckets)
	for _, key := range keys {
		texts[Of(key)] += wire.Text(key) + wire.Text("") + wire.Num(1) + wire.Num(0)
	}
	for n, s := range Sums(l) {
		if s != blake.Sum(texts[n]) {
			t.Errorf("sum %d is that of another order", n)
		}
	}
}

// The sums were worked out from the document by another program.
func TestSumsAgainstThoseOfAnotherProgram(t *testing.T) {
	for _, c := range []struct {
		name string
		l    []api.Entry
		want []string
	}{
		{"40 entries", small(), []string{
			"d788dffd4ffd3e7711d790cbc5bfde29345e9544bc94cf061aaac1492feb62ae",
			"46a26245fbe2166b5cbdf0773fd4a617cc9ec03bd4dd1a6eeba4c48b76a34058",
			"cae8115c6bf0baa25d7c0438f57aa2ca344e5f8fd762d4a538b99599963814ac",
			"f01e5ba2355248c213d45441740063a0648acd4df9df0c643a115e23cfbf4af9",
			"925e0dc390a1c721bd5c4527971bc09dd8710445d27403fe25db5fa85cad8230",
			sumOfNothing,
			"e28ed6b8fdcf49b7519e8daad0d77a34a60992122b905b0cf94c95e8448afb96",
			"aca5512c89728382470b5bfaa31c13f16af105aa3c19252ecb357b3912437697",
			"879f81086a38f90c7ab87fe97cbdc1fd25ed14bd22fb2b66a6ba893f2a75209d",
			"c8a61e424dd2bdcf69232daf643abc8bb084d8dedeea8113d23abec2f7e5460e",
			"24b81ecfeba8724bd5735afee9b36355e0ebf7c4a2aaceff3211f2d19cb9d2c2",
			"c1ef9dc93aecb28e0a3f99aaf479aa4e6db80cf3371d53fdfca68d5b93977645",
			"6c002eac554a852d47d0b24b23785e90083dd9f1e0b440c0d3beabfc3c2b3b5c",
			"9a0aad9946cb5a1f84e04e725e62968540d3ca7044b5eec56de9614578e93588",
			"eee27930797924549c0849c9e531c5edc1978ffdee9575a682205e355db54c4f",
			"1db59d1382b214a8aa39525f3db8e100915a1eea50cf7b6199c3f57d25f38524",
		}},
		{"1000 entries", full(), []string{
			"e18e9f65075e984d2c0dc51a06386c5af27d7e4f9daa766ba83d770319cc1228",
			"1c010ed2f82bc69f3c2581c51f394ffb24c90d3dc3e5750e25d89c614683ccb3",
			"d058a87a2303f64a997411d6ddb4285f153f716fc57b6a73711e0f5328937f69",
			"dccbbb789aa1bb741bb2f62843c7214b0bee0cb7eeb53cd537204fb38cc48864",
			"eb44d53758ce83f2dc303c0ac603bdb6f1e19121fa34fb4e280432a5f7e8fcdf",
			"fa5e7fde62eb0e281470bd4bc74ea17f6f79cae2b771acc67535c3fb4b84b0d1",
			"b414ab2973c634948fed63e5dd5fe82e6b89d11b098ce91fba18f117fc56e865",
			"a59f053e5de6f97a522aa51a77c5cb02e1406a129ec847d80f029e44caf8c196",
			"d0818bf0c0f76044693fef581955bd9ac6e039d7fddf340844427f1791cdbdab",
			"04f56e333aa0db2f4d6d17f0aa2fcb999f918d016169096cfa3305d0665ba142",
			"4d324993e7a94e1e15e83b64f95dbd917c82584a390c0dc4f3e3dd010d5e5cb1",
			"4163fa947454e90a06e39b3bce6249b99f866c68b9833a85a49142d25435c34a",
			"e10fa151d7afc134cb925a3a421e7d9b1a9ac0991b45fdf831fe5f566e5948a4",
			"aacfd41185e9fd3c6af1e76dceabcd02654ff18018779482998bcf0bb127e833",
			"bc1bca1c275644a3e07aaba0cacedc9878ec37651238da336537096f87353999",
			"e587933296ef00336469c8c4b1608ed34182e952de039ca9a3ca96acd91984ce",
		}},
	} {
		if got := sums(t, c.l); !slices.Equal(got, c.want) {
			t.Errorf("%s: %v, want %v", c.name, got, c.want)
		}
	}
}

func TestEachPartOfAnEntryIsInItsSum(t *testing.T) {
	l := small()
	was := Sums(l)
	for j, x := range l {
		of := Of(x.Key)
		for name, other := range map[string]api.Entry{
			"value":         {Key: x.Key, Value: x.Value + "'", Version: x.Version, End: x.End},
			"version":       {Key: x.Key, Value: x.Value, Version: x.Version + 1, End: x.End},
			"end":           {Key: x.Key, Value: x.Value, Version: x.Version, End: x.End + 1},
			"end, far":      {Key: x.Key, Value: x.Value, Version: x.Version, End: x.End + 1<<63},
			"version, far":  {Key: x.Key, Value: x.Value, Version: x.Version + 1<<63, End: x.End},
			"one for other": {Key: x.Key, Value: x.Value, Version: x.End, End: x.Version},
		} {
			l[j] = other
			wantDiffer(t, x.Key+", another "+name, was, Sums(l), of)
		}
		l[j] = x
	}
}

func TestEntriesThatLackOrAreTooMany(t *testing.T) {
	l := small()
	was := Sums(l)
	for j, x := range l {
		of := Of(x.Key)
		wantDiffer(t, x.Key+" lacks", was, Sums(slices.Concat(l[:j], l[j+1:])), of)
		wantDiffer(t, x.Key+" twice", was, Sums(slices.Concat(l, l[j:j+1])), of)
		moved := slices.Clone(l)
		moved[j].Key += "'"
		want := slices.Compact(slices.Sorted(slices.Values([]int{of, Of(x.Key + "'")})))
		wantDiffer(t, x.Key+" of another key", was, Sums(moved), want...)
	}
}

func TestDifferTellsRising(t *testing.T) {
	a := Sums(small())
	for n := range a {
		for k := range n {
			b := slices.Clone(a)
			b[n] += "'"
			b[k] = ""
			wantDiffer(t, strconv.Itoa(k)+" and "+strconv.Itoa(n), a, b, k, n)
		}
	}
}

func TestDifferOfTheSame(t *testing.T) {
	a := Sums(small())
	wantDiffer(t, "the same list", a, a)
	wantDiffer(t, "the same sums", a, Sums(small()))
	wantDiffer(t, "two of nothing", Sums(nil), Sums([]api.Entry{}))
	wantDiffer(t, "sums without bytes", make([]string, 16), make([]string, 16))
}

func TestDifferOfAllOthers(t *testing.T) {
	a, b := Sums(small()), Sums(full())
	wantDiffer(t, "others", a, b, all()...)
	a[7] = b[7]
	wantDiffer(t, "others, but one", a, b, 0, 1, 2, 3, 4, 5, 6, 8, 9, 10, 11, 12, 13, 14, 15)
}

func TestDifferOfNotAsMany(t *testing.T) {
	a := Sums(small())
	more := append(slices.Clone(a), a[0])
	wantDiffer(t, "none and sixteen", nil, a, all()...)
	wantDiffer(t, "none and none", nil, nil, all()...)
	wantDiffer(t, "none and an empty list", nil, []string{}, all()...)
	wantDiffer(t, "fifteen and sixteen", a[:15], a, all()...)
	wantDiffer(t, "fifteen and fifteen", a[:15], a[:15], all()...)
	wantDiffer(t, "seventeen and sixteen", more, a, all()...)
	wantDiffer(t, "seventeen and seventeen", more, more, all()...)
	wantDiffer(t, "one and one", a[:1], a[:1], all()...)
}

func TestWhatIsHandedInStays(t *testing.T) {
	l := full()
	slices.Reverse(l)
	was := slices.Clone(l)
	a := Sums(l)
	b := Sums(small())
	if !slices.Equal(l, was) {
		t.Error("Sums changes the entries that are handed in")
	}
	c, d := slices.Clone(a), slices.Clone(b)
	Differ(a, b)
	if !slices.Equal(a, c) || !slices.Equal(b, d) {
		t.Error("Differ changes the sums that are handed in")
	}
}

func TestWhatIsToldIsTheCallersOwn(t *testing.T) {
	a, b := Sums(small()), Sums(small())
	clear(a)
	if !slices.Equal(b, Sums(small())) {
		t.Error("two lists of sums are one")
	}
	l, m := Differ(a, b), Differ(nil, nil)
	clear(l)
	clear(m)
	if !slices.Equal(Differ(a, b), all()) || !slices.Equal(Differ(nil, nil), all()) {
		t.Error("two lists of buckets are one")
	}
}

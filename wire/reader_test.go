package wire

import (
	"encoding/binary"
	"strings"
	"testing"

	"hawthorn/api"
)

// readNum is what Num takes off bytes, and what Read tells of them.
func readNum(s string, top uint64) (n uint64, e api.Errno) {
	e = Read(s, func(r *Reader) { n = r.Num(top) })
	return n, e
}

func TestReadTakesAllKindsOfThings(t *testing.T) {
	s := Num(300) + Text("key") + Flag(true) + Flag(false) + "raw" + Text("") + Num(0) + Num(most)
	e := Read(s, func(r *Reader) {
		if r.Left() != len(s) {
			t.Error("left at first:", r.Left())
		}
		if n := r.Num(300); n != 300 {
			t.Error("number:", n)
		}
		if x := r.Text(3); x != "key" {
			t.Errorf("text: %q", x)
		}
		if !r.Flag() || r.Flag() {
			t.Error("yes, no")
		}
		if x := r.Bytes(0); x != "" {
			t.Errorf("no bytes: %q", x)
		}
		if x := r.Bytes(3); x != "raw" {
			t.Errorf("bytes: %q", x)
		}
		if x := r.Text(0); x != "" {
			t.Errorf("empty text: %q", x)
		}
		r.Must(true)
		if n := r.Num(0); n != 0 || r.Left() != 10 {
			t.Error("nought:", n, "left:", r.Left())
		}
		if n := r.Num(most); n != most || r.Left() != 0 {
			t.Error("the greatest:", n, "left:", r.Left())
		}
	})
	if e != api.OK {
		t.Error(e)
	}
}

func TestReadTakesAllBytesOrNone(t *testing.T) {
	for _, x := range []struct {
		s    string
		take func(r *Reader)
		want api.Errno
	}{
		{"", func(r *Reader) {}, api.OK},
		{"", nil, api.OK},
		{"a", func(r *Reader) {}, api.ErrExtra},
		{"a", nil, api.ErrExtra},
		{"ab", func(r *Reader) { r.Bytes(1) }, api.ErrExtra},
		{"ab", func(r *Reader) { r.Bytes(2) }, api.OK},
		{"ab", func(r *Reader) { r.Must(false) }, api.ErrForm}, // ahead of what is left
	} {
		if e := Read(x.s, x.take); e != x.want {
			t.Errorf("Read(%q) is %d, not %d", x.s, e, x.want)
		}
	}
}

func TestNumOfItsOwnBytes(t *testing.T) {
	for shift := range 64 {
		for _, n := range []uint64{1 << shift, 1<<shift - 1, most << shift, 0x0123456789abcdef >> shift} {
			if got, e := readNum(Num(n), most); got != n || e != api.OK {
				t.Errorf("%d is read as %d, %d", n, got, e)
			}
			if want := string(binary.AppendUvarint(nil, n)); Num(n) != want {
				t.Errorf("Num(%d) is %x, not %x", n, Num(n), want)
			}
		}
	}
}

func TestNumTellsWhatCantBe(t *testing.T) {
	const nine, ten = "\x80\x80\x80\x80\x80\x80\x80\x80\x80", "\x80\x80\x80\x80\x80\x80\x80\x80\x80\x80"
	for _, x := range []struct {
		s    string
		top  uint64
		want api.Errno
	}{
		{"", most, api.ErrShort},
		{"\x80", most, api.ErrShort},
		{"\xff\xff", 0, api.ErrShort},
		{nine, most, api.ErrShort},
		{ten, most, api.ErrForm}, // the tenth is not the last one: more than ten, ahead of the end
		{ten + "\x80", most, api.ErrForm},
		{ten + "\xff", 0, api.ErrForm},
		{ten + ten, most, api.ErrForm},
		{nine + "\x81", most, api.ErrForm},
		{nine + "\x82", most, api.ErrForm},
		{ten + "\x00", most, api.ErrForm}, // eleven bytes
		{ten + "\x01", most, api.ErrForm},
		{ten + ten + "\x01", most, api.ErrForm},
		{nine + "\x02", most, api.ErrForm}, // 65 bits
		{nine + "\x7f", most, api.ErrForm},
		{nine + "\x00", most, api.ErrForm}, // not the shortest
		{"\x80\x00", most, api.ErrForm},
		{"\xff\x80\x00", most, api.ErrForm},
		{"\x80\x00", 0, api.ErrForm},
		{nine + "\x02", 0, api.ErrForm}, // ahead of being above the top
		{"\x01", 0, api.ErrOver},
		{"\xac\x02", 299, api.ErrOver},
		{nine + "\x01", 1<<63 - 1, api.ErrOver},
		{Num(most), most - 1, api.ErrOver},
		{"\xac\x02x", 299, api.ErrOver}, // ahead of what is left
		{"\xac\x02x", 300, api.ErrExtra},
		{"\x00x", 0, api.ErrExtra},
	} {
		n, e := readNum(x.s, x.top)
		if e != x.want || n != 0 && e != api.ErrExtra {
			t.Errorf("%x, at most %d, is read as %d, %d, not %d", x.s, x.top, n, e, x.want)
		}
	}
}

func TestNumAsksItsBytesInTheirOrder(t *testing.T) {
	const nine = "\x80\x80\x80\x80\x80\x80\x80\x80\x80"
	for size := range len(nine) + 1 {
		for _, first := range []byte{0x80, 0xff} {
			s := strings.Repeat(string([]byte{first}), size)
			if _, e := readNum(s, most); e != api.ErrShort {
				t.Errorf("%x is read as %d, not %d", s, e, api.ErrShort)
			}
		}
	}
	for tenth := range 256 {
		for behind := range 4 {
			s := nine + string([]byte{byte(tenth)}) + strings.Repeat("\x80", behind)
			want := api.ErrForm
			if tenth == 1 && behind == 0 {
				want = api.OK
			} else if tenth == 1 {
				want = api.ErrExtra
			}
			if _, e := readNum(s, most); e != want {
				t.Errorf("%x is read as %d, not %d", s, e, want)
			}
		}
	}
}

func TestTextTellsWhatCantBe(t *testing.T) {
	for _, x := range []struct {
		s    string
		top  int
		text string
		want api.Errno
	}{
		{"\x02ab", 2, "ab", api.OK},
		{"\x02ab", 1 << 62, "ab", api.OK},
		{"\x02\xff\x00", 2, "\xff\x00", api.OK},
		{"\x00", 0, "", api.OK},
		{"\x00", -1, "", api.OK}, // below 0 is 0
		{"\x00", -1 << 63, "", api.OK},
		{"\x01a", 0, "", api.ErrOver},
		{"\x01a", -1, "", api.ErrOver},
		{"\x01a", -1 << 63, "", api.ErrOver},
		{"\x03abc", 2, "", api.ErrOver},
		{"\x03", 2, "", api.ErrOver}, // its length is asked ahead of its bytes
		{Num(most), 1<<63 - 1, "", api.ErrOver},
		{Num(1<<63 - 1), 1<<63 - 1, "", api.ErrShort},
		{"", 2, "", api.ErrShort},
		{"\x02a", 2, "", api.ErrShort},
		{"\x80", 2, "", api.ErrShort},
		{"\x82\x00ab", 2, "", api.ErrForm},
		{strings.Repeat("\x80", 9), 2, "", api.ErrShort},
		{strings.Repeat("\x80", 10), 2, "", api.ErrForm}, // a length of more than ten bytes, ahead of their end
		{strings.Repeat("\x80", 12), -1, "", api.ErrForm},
		{strings.Repeat("\x80", 9) + "\x82", 2, "", api.ErrForm},
		{"\x02abc", 2, "ab", api.ErrExtra},
	} {
		var text string
		e := Read(x.s, func(r *Reader) { text = r.Text(x.top) })
		if text != x.text || e != x.want {
			t.Errorf("%.12q, at most %d, is read as %q, %d, not %q, %d", x.s, x.top, text, e, x.text, x.want)
		}
	}
}

func TestBytesTellsWhatCantBe(t *testing.T) {
	for _, x := range []struct {
		n    int
		text string
		want api.Errno
	}{
		{4, "abcd", api.OK},
		{3, "abc", api.ErrExtra},
		{0, "", api.ErrExtra},
		{5, "", api.ErrShort},
		{1<<63 - 1, "", api.ErrShort},
		{-1, "", api.ErrShort},
		{-1 << 63, "", api.ErrShort},
	} {
		var text string
		e := Read("abcd", func(r *Reader) { text = r.Bytes(x.n) })
		if text != x.text || e != x.want {
			t.Errorf("%d bytes of 4 are %q, %d, not %q, %d", x.n, text, e, x.text, x.want)
		}
	}
}

func TestFlagIsOneOrNought(t *testing.T) {
	for b := range 256 {
		var got bool
		e := Read(string([]byte{byte(b)}), func(r *Reader) { got = r.Flag() })
		want := api.ErrForm
		if b < 2 {
			want = api.OK
		}
		if got != (b == 1) || e != want {
			t.Errorf("byte %d is read as %v, %d", b, got, e)
		}
	}
	if e := Read("", func(r *Reader) { r.Flag() }); e != api.ErrShort {
		t.Error("no byte:", e)
	}
}

func TestMustEndsTheReading(t *testing.T) {
	on := false
	e := Read("", func(r *Reader) {
		r.Must(true)
		on = true
		r.Must(false)
		t.Error("it goes on")
	})
	if e != api.ErrForm || !on {
		t.Error(e, on)
	}
}

func TestReadTellsTheFirstError(t *testing.T) {
	for _, x := range []struct {
		name, s string
		take    func(r *Reader)
		want    api.Errno
	}{
		{"over, short", "\x09", func(r *Reader) { r.Num(8); r.Bytes(4) }, api.ErrOver},
		{"short, over", "\x09", func(r *Reader) { r.Num(9); r.Bytes(4); r.Must(false) }, api.ErrShort},
		{"form, over", "\x02\x09", func(r *Reader) { r.Flag(); r.Num(8) }, api.ErrForm},
		{"one that recovers by itself", "\x09\x02", func(r *Reader) {
			func() {
				defer func() { recover() }()
				r.Num(8)
			}()
			r.Flag()
		}, api.ErrOver},
		{"one that recovers and leaves the rest", "\x09", func(r *Reader) {
			defer func() { recover() }()
			r.Num(8)
		}, api.ErrOver},
		{"one that recovers and goes on", "\x09", func(r *Reader) {
			defer func() {
				recover()
				r.Num(9)
			}()
			r.Num(8)
		}, api.ErrOver},
	} {
		if e := Read(x.s, x.take); e != x.want {
			t.Errorf("%s: %d, not %d", x.name, e, x.want)
		}
	}
}

// As all chapters read: a number that has a limit by that, a key and a value by theirs, all others by 2^64 - 1.
func TestReadingAsChaptersDo(t *testing.T) {
	type entry struct {
		kind       uint64
		key, value string
		any        uint64
	}
	key, value := strings.Repeat("k", api.MostKey), strings.Repeat("v", api.MostValue)
	for _, x := range []struct {
		name, s string
		want    api.Errno
	}{
		{"all at their limits", Num(5) + Text(key) + Text(value) + Num(most), api.OK},
		{"the least", Num(1) + Text("k") + Text("") + Num(0), api.OK},
		{"a kind above its limit", Num(6), api.ErrOver},
		{"a kind of 0", Num(0), api.ErrForm},
		{"a key that is too long", Num(5) + Text(key+"k") + Text(value) + Num(most), api.ErrOver},
		{"a value that is too long", Num(5) + Text(key) + Text(value+"v") + Num(most), api.ErrOver},
		{"a number above 64 bits", Num(5) + Text(key) + Text(value) + "\xff\xff\xff\xff\xff\xff\xff\xff\xff\x02", api.ErrForm},
		{"an empty key, asked behind all", Num(5) + Text("") + Text(value) + Num(most), api.ErrForm},
		{"an empty key, and a value that is too long", Num(5) + Text("") + Text(value+"v") + Num(most), api.ErrOver},
		{"an empty key, and no number", Num(5) + Text("") + Text(value), api.ErrShort},
		{"an empty key, and more", Num(5) + Text("") + Text("") + Num(0) + "x", api.ErrForm},
		{"more", Num(5) + Text("k") + Text("") + Num(0) + "x", api.ErrExtra},
	} {
		var got entry
		e := Read(x.s, func(r *Reader) {
			got.kind = r.Num(5)
			r.Must(got.kind > 0)
			got.key = r.Text(api.MostKey)
			got.value = r.Text(api.MostValue)
			got.any = r.Num(1<<64 - 1)
			r.Must(got.key != "")
		})
		if e != x.want {
			t.Errorf("%s: %d, not %d", x.name, e, x.want)
		}
		if again := Num(got.kind) + Text(got.key) + Text(got.value) + Num(got.any); e == api.OK && again != x.s {
			t.Errorf("%s: it is written otherwise than it was read", x.name)
		}
	}
}

func TestAPanicOfAnotherTypeGoesOn(t *testing.T) {
	for _, x := range []any{"of the caller", api.ErrForm, 7} {
		func() {
			defer func() {
				if got := recover(); got != x {
					t.Errorf("%v comes out as %v", x, got)
				}
			}()
			e := Read("a", func(r *Reader) { panic(x) })
			t.Errorf("%v is told as %d", x, e)
		}()
	}
}

func TestAReadingWithinAnother(t *testing.T) {
	var inner api.Errno
	outer := Read("\x02ab", func(r *Reader) {
		inner = Read(r.Text(2), func(in *Reader) { in.Bytes(3) })
		r.Must(r.Left() == 0)
	})
	if inner != api.ErrShort || outer != api.OK {
		t.Error("one that is not the inner one's ended:", inner, outer)
	}
	outer = Read("a", func(r *Reader) {
		Read("b", func(in *Reader) {
			in.Bytes(1)
			r.Num(5)
		})
		t.Error("the inner one took what was the outer one's")
	})
	if outer != api.ErrOver {
		t.Error(outer)
	}
}

func TestACopyEndsItsReading(t *testing.T) {
	e := Read("ab", func(r *Reader) {
		ahead := *r
		if ahead.Bytes(2) != "ab" || r.Left() != 2 {
			t.Error("a copy takes what is the Reader's")
		}
		ahead.Bytes(1)
	})
	if e != api.ErrShort {
		t.Error(e)
	}
}

func TestAReaderWithoutAReadingHasNothing(t *testing.T) {
	var kept, failed *Reader
	Read("abc", func(r *Reader) { kept = r })
	Read("abc", func(r *Reader) {
		failed = r
		r.Must(false)
	})
	for name, r := range map[string]*Reader{"nil": nil, "zero": {}, "kept": kept, "failed": failed} {
		if r.Left() != 0 || r.Num(most) != 0 || r.Text(5) != "" || r.Flag() {
			t.Errorf("%s: there is something", name)
		}
		if r.Bytes(0) != "" || r.Bytes(1) != "" || r.Bytes(-1) != "" {
			t.Errorf("%s: there are bytes", name)
		}
		r.Must(true)
		r.Must(false)
	}
}

func TestReadOfAnyBytesEnds(t *testing.T) {
	all := func(r *Reader) {
		for r.Left() > 0 {
			r.Num(1 << 40)
			r.Text(9)
			r.Flag()
		}
	}
	s := []byte(strings.Repeat("\x05\x01a\x01", 8))
	if e := Read(string(s), all); e != api.OK {
		t.Fatal(e)
	}
	for at := range s {
		for b := range 256 {
			old := s[at]
			s[at] = byte(b)
			e := Read(string(s), all)
			if e != api.OK && e != api.ErrShort && e != api.ErrForm && e != api.ErrOver {
				t.Fatalf("byte %d as %d: %d", at, b, e)
			}
			s[at] = old
		}
	}
}

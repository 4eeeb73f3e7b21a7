package wire

import (
	"hash/crc32"
	"strings"
	"testing"

	"hawthorn/api"
)

// The bytes and checks that are asked for here were worked out from the document by another program.

const most = 1<<64 - 1

func TestNumTellsItsBytes(t *testing.T) {
	for _, x := range []struct {
		n    uint64
		want string
	}{
		{0, "\x00"},
		{1, "\x01"},
		{127, "\x7f"},
		{128, "\x80\x01"},
		{300, "\xac\x02"},
		{16383, "\xff\x7f"},
		{16384, "\x80\x80\x01"},
		{1<<32 - 1, "\xff\xff\xff\xff\x0f"},
		{1 << 32, "\x80\x80\x80\x80\x10"},
		{1<<63 - 1, "\xff\xff\xff\xff\xff\xff\xff\xff\x7f"},
		{1 << 63, "\x80\x80\x80\x80\x80\x80\x80\x80\x80\x01"},
		{most, "\xff\xff\xff\xff\xff\xff\xff\xff\xff\x01"},
	} {
		if got := Num(x.n); got != x.want {
			t.Errorf("Num(%d) is %x, not %x", x.n, got, x.want)
		}
	}
}

func TestTextHasItsLengthAhead(t *testing.T) {
	for _, x := range []struct{ s, want string }{
		{"", "\x00"},
		{"a", "\x01a"},
		{"\xff\x00", "\x02\xff\x00"}, // bytes, not runes
		{"\u00e9", "\x02\xc3\xa9"},
		{strings.Repeat("k", 127), "\x7f" + strings.Repeat("k", 127)},
		{strings.Repeat("k", 128), "\x80\x01" + strings.Repeat("k", 128)},
		{strings.Repeat("k", 300), "\xac\x02" + strings.Repeat("k", 300)},
	} {
		if got := Text(x.s); got != x.want {
			t.Errorf("Text(%.12q) is %.12q, not %.12q", x.s, got, x.want)
		}
	}
}

func TestFlagIsOneByte(t *testing.T) {
	if Flag(true) != "\x01" || Flag(false) != "\x00" {
		t.Errorf("yes is %q, no is %q", Flag(true), Flag(false))
	}
}

func allBytes() string {
	b := make([]byte, 5*256)
	for i := range b {
		b[i] = byte(i)
	}
	return string(b)
}

func TestCheckTellsItsNumbers(t *testing.T) {
	for _, x := range []struct {
		s    string
		want uint32
	}{
		{"", 0},
		{"\x00", 0x3f522c72},
		{"a", 0x0da2aa8a},
		{"123456789", 0x2d3dd0ae},
		{"hawthorn", 0x89a92168},
		{"\xff\xff\xff\xff", 0xffffffff},
		{allBytes(), 0xa6bb5804},
	} {
		if got := Check(x.s); got != x.want {
			t.Errorf("Check(%.12q) is %x, not %x", x.s, got, x.want)
		}
	}
}

func TestCheckIsThatOfThePolynomial(t *testing.T) {
	table := crc32.MakeTable(0xeb31d82e)
	all := allBytes()
	for from := range 300 {
		s := all[from : 2*from]
		if got, want := Check(s), crc32.Checksum([]byte(s), table); got != want {
			t.Fatalf("of %d bytes the check is %x, not %x", len(s), got, want)
		}
	}
}

func TestFrameTellsItsBytes(t *testing.T) {
	for _, x := range []struct{ s, want string }{
		{"", "\x31\x00\xfa\x6b\xf0\x93"},
		{"a", "\x31\x01a\x3c\x6e\x95\x5f"},
		{"hawthorn", "\x31\x08hawthorn\x72\xec\x60\x51"},
		{"\x00\xff", "\x31\x02\x00\xff\x86\xca\x9d\x17"},
		{strings.Repeat("x", 300), "\x31\xac\x02" + strings.Repeat("x", 300) + "\x27\x78\xc3\xd4"},
		{strings.Repeat("y", api.MostFrame), "\x31\x80\x80\x04" + strings.Repeat("y", api.MostFrame) + "\xce\x12\x2e\x1c"},
	} {
		got, e := Frame(x.s)
		if got != x.want || e != api.OK {
			t.Errorf("Frame(%.12q) is %.12q, %d, not %.12q", x.s, got, e, x.want)
		}
		if s, e := Open(x.want); s != x.s || e != api.OK {
			t.Errorf("Open(%.12q) is %.12q, %d, not %.12q", x.want, s, e, x.s)
		}
	}
}

func TestFrameOfTooMuch(t *testing.T) {
	for _, size := range []int{api.MostFrame + 1, 2 * api.MostFrame} {
		if got, e := Frame(strings.Repeat("y", size)); got != "" || e != api.ErrOver {
			t.Errorf("a frame of %d bytes has %d, %d", size, len(got), e)
		}
	}
}

// sealed is a body with its right check behind it.
func sealed(body string) string {
	c := crc32.Checksum([]byte(body), crc32.MakeTable(crc32.Koopman))
	return body + string([]byte{byte(c), byte(c >> 8), byte(c >> 16), byte(c >> 24)})
}

func TestOpenOfWhatIsNoFrame(t *testing.T) {
	over := Num(api.MostFrame + 1)
	for _, x := range []struct {
		name, f string
		want    api.Errno
	}{
		{"nothing", "", api.ErrShort},
		{"another version", sealed("\x30\x01a"), api.ErrForm},
		{"another version alone", "\x30", api.ErrForm},
		{"another version, too great", sealed("\x00" + over), api.ErrForm},
		{"another version, and more", sealed("\x32\x01a") + "x", api.ErrForm},
		{"no length", "\x31", api.ErrShort},
		{"half a length", "\x31\x80", api.ErrShort},
		{"a length of two forms", sealed("\x31\x81\x00a"), api.ErrForm},
		{"a length of two forms, short", "\x31\x80\x00", api.ErrForm},
		{"a length of eleven bytes", sealed("\x31\x80\x80\x80\x80\x80\x80\x80\x80\x80\x80\x01a"), api.ErrForm},
		{"a length of nine bytes, without its last one", "\x31" + strings.Repeat("\x80", 9), api.ErrShort},
		{"a length of more than ten bytes, at the tenth", "\x31" + strings.Repeat("\x80", 10), api.ErrForm},
		{"a length of more than ten bytes, without its last one", "\x31" + strings.Repeat("\x80", 12), api.ErrForm},
		{"a length above 64 bits, without its last byte", "\x31" + strings.Repeat("\x80", 9) + "\x82", api.ErrForm},
		{"too great", sealed("\x31" + Text(strings.Repeat("y", api.MostFrame+1))), api.ErrOver},
		{"too great, and short", "\x31" + over, api.ErrOver},
		{"as great as can be, and short", "\x31" + Num(most), api.ErrOver},
		{"great, and short", "\x31" + Num(api.MostFrame), api.ErrShort},
		{"too few bytes", "\x31\x03ab", api.ErrShort},
		{"no check", "\x31\x01a", api.ErrShort},
		{"half a check", "\x31\x01a\x3c\x6e\x95", api.ErrShort},
		{"half a wrong check", "\x31\x01a\x00\x00\x00", api.ErrShort},
		{"another check", "\x31\x01a\x3c\x6e\x95\x5e", api.ErrForm},
		{"a check with the highest byte first", "\x31\x01a\x5f\x95\x6e\x3c", api.ErrForm},
		{"a check of the bytes alone", "\x31\x01a" + sealed("a")[1:], api.ErrForm},
		{"another check, and more", "\x31\x01a\x3c\x6e\x95\x5e!", api.ErrForm},
		{"more", "\x31\x01a\x3c\x6e\x95\x5f!", api.ErrExtra},
		{"two", sealed("\x31\x01a") + sealed("\x31\x01a"), api.ErrExtra},
	} {
		if s, e := Open(x.f); s != "" || e != x.want {
			t.Errorf("%s: Open is %.12q, %d, not %d", x.name, s, e, x.want)
		}
	}
}

func TestOpenOfAFrameThatBreaksOff(t *testing.T) {
	f, _ := Frame(strings.Repeat("hawthorn", 40))
	for size := range len(f) {
		if s, e := Open(f[:size]); s != "" || e != api.ErrShort {
			t.Fatalf("Open of %d bytes of %d is %.12q, %d", size, len(f), s, e)
		}
	}
}

func TestOpenOfAFrameThatIsSpoilt(t *testing.T) {
	f, _ := Frame(strings.Repeat("hawthorn", 20))
	for at := range len(f) {
		for bits := 1; bits < 256; bits++ {
			b := []byte(f)
			b[at] ^= byte(bits)
			if s, e := Open(string(b)); s != "" || e == api.OK {
				t.Fatalf("with byte %d changed by %x Open is %.12q, %d", at, bits, s, e)
			}
		}
	}
}

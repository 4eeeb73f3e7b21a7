package mix

import (
	"strings"
	"testing"
)

// The numbers that are asked for here were worked out from the document by another program.

const most = 1<<64 - 1

func TestMixTellsItsNumbers(t *testing.T) {
	for _, x := range []struct{ n, want uint64 }{
		{0, 0},
		{1, 0x0c435ab98655193a},
		{7, 0x3469b6c1f18fe26b},
		{1 << 32, 0x1b6051c1af3090ec},
		{1 << 63, 0x1f8323457a9e1d90},
		{most, 0x52ab8f3e04d0897f},
		{0x9e3779b97f4a7c15, 0xb7b5320fb368b6ac},
		{0x0123456789abcdef, 0x1fd0b01ac8edfc45},
	} {
		if got := Mix(x.n); got != x.want {
			t.Errorf("Mix(%x) is %x, not %x", x.n, got, x.want)
		}
		if got := Unmix(x.want); got != x.n {
			t.Errorf("Unmix(%x) is %x, not %x", x.want, got, x.n)
		}
	}
}

func TestUnmixUndoesMix(t *testing.T) {
	for shift := range 64 {
		for _, n := range []uint64{1 << shift, 1<<shift - 1, most << shift, most - 1<<shift, uint64(shift) * 0x0101010101010101} {
			if got := Unmix(Mix(n)); got != n {
				t.Errorf("Unmix(Mix(%x)) is %x", n, got)
			}
			if got := Mix(Unmix(n)); got != n {
				t.Errorf("Mix(Unmix(%x)) is %x", n, got)
			}
		}
	}
}

func TestOfTellsItsNumbers(t *testing.T) {
	var all strings.Builder
	for i := range 1024 {
		all.WriteByte(byte(i))
	}
	for _, x := range []struct {
		seed uint64
		s    string
		want uint64
	}{
		{0, "", 0x70fc3b5bc79c1149},
		{1, "", 0x419c3cbdddb85e6a},
		{0, "a", 0xaec686656e37b357},
		{1, "a", 0x9bfa5b978fe6256a},
		{7, "key", 0xb2685321eaaffb86},
		{most, "hawthorn", 0xe173d0f3a27bafd2},
		{5, "\x00\xff\x80", 0x1c11ed243782d5de}, // bytes, not runes
		{5, "\x00", 0x0048492c92c07bc2},
		{5, "\x00\x00", 0x4fbabe9a7f1fad60},
		{3, all.String(), 0xf27e020fcd64ca54},
	} {
		if got := Of(x.seed, x.s); got != x.want {
			t.Errorf("Of(%d, %.12q) is %x, not %x", x.seed, x.s, got, x.want)
		}
	}
}

func TestPlaceTellsItsNumbers(t *testing.T) {
	const great = 1<<63 - 1
	for _, x := range []struct {
		h         uint64
		row, size int
		want      int
	}{
		{0, 0, 10, 0},
		{9, 2, 10, 6},
		{9, 3, 10, 4},
		{most, 4, 4096, 457},
		{0x9d4a6e5b3c2f1a07, 3, 8000, 1209},
		{1, -1, 1000, 214},
		{most, -1 << 63, great, 4113854924173573066},
		{5, great, great, 5460992601914354682},
	} {
		if got := Place(x.h, x.row, x.size); got != x.want {
			t.Errorf("Place(%x, %d, %d) is %d, not %d", x.h, x.row, x.size, got, x.want)
		}
	}
}

func TestPlaceIsOneOfSoMany(t *testing.T) {
	for size := 1; size < 40; size++ {
		found := make([]bool, size)
		for h := range uint64(2000) {
			p := Place(Mix(h), int(h%7)-1, size)
			if p < 0 || p >= size {
				t.Fatalf("Place of %d in %d is %d", h, size, p)
			}
			found[p] = true
		}
		for p, ok := range found {
			if !ok {
				t.Errorf("of %d places nothing ever stands at %d", size, p)
			}
		}
	}
}

func TestPlaceOfNoneIsNought(t *testing.T) {
	for _, size := range []int{0, -1, -1 << 63} {
		for _, h := range []uint64{0, 9, most} {
			if got := Place(h, 1, size); got != 0 {
				t.Errorf("Place(%x, 1, %d) is %d", h, size, got)
			}
		}
	}
}

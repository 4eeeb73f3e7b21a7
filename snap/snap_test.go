package snap

import (
	"encoding/hex"
	"math"
	"slices"
	"strconv"
	"strings"
	"testing"

	"hawthorn/api"
	"hawthorn/blake"
)

const most = 8192 * 1024 // bytes

// sample is so many bytes, of which no two pieces are alike.
func sample(n int) string {
	b := make([]byte, n)
	for j := range b {
		b[j] = byte(j*7 + (j>>8)*3 + (j>>16)*5)
	}
	return string(b)
}

// lengths are those at pieces' ends, and beside them.
func lengths() []int {
	return []int{0, 1, 2, 31, 1023, 1024, 1025, 1026, 2047, 2048, 2049, 5000, 10239, 10240, 10241}
}

// cut is the pieces of so many bytes.
func cut(t *testing.T, n int) []api.Piece {
	t.Helper()
	return cutOf(t, sample(n))
}

func cutOf(t *testing.T, s string) []api.Piece {
	t.Helper()
	l, e := Cut(s)
	if e != api.OK || len(l) == 0 {
		t.Fatalf("Cut of %d bytes: %d pieces, %d", len(s), len(l), e)
	}
	return l
}

// gather is one for pieces, that has none of them.
func gather(t *testing.T, l []api.Piece) *Gather {
	t.Helper()
	g, e := New(l[0].Whole, len(l))
	if e != api.OK || g == nil {
		t.Fatalf("New for %d pieces: %v, %d", len(l), g, e)
	}
	return g
}

// other is a piece with other bytes, and their sum.
func other(p api.Piece, data string) api.Piece {
	p.Data, p.Sum = data, blake.Sum(data)
	return p
}

// flipped is a text of which one byte has other bits.
func flipped(s string, at int, bits byte) string {
	b := []byte(s)
	b[at] ^= bits
	return string(b)
}

func wantAdd(t *testing.T, name string, g *Gather, p api.Piece, isNew bool, e api.Errno) {
	t.Helper()
	if gotNew, got := g.Add(p); gotNew != isNew || got != e {
		t.Fatalf("%s: Add of piece %d of %d with %d bytes: %v, %d, not %v, %d", name, p.N, p.Of, len(p.Data), gotNew, got, isNew, e)
	}
}

func wantNext(t *testing.T, name string, g *Gather, n int, lacks bool) {
	t.Helper()
	if got, is := g.Next(); got != n || is != lacks {
		t.Fatalf("%s: Next is %d, %v, not %d, %v", name, got, is, n, lacks)
	}
}

func wantWhole(t *testing.T, name string, g *Gather, s string, e api.Errno) {
	t.Helper()
	if got, gotE := g.Whole(); got != s || gotE != e {
		t.Fatalf("%s: Whole is %d bytes, %d, not %d, %d", name, len(got), gotE, len(s), e)
	}
}

// wantLack holds against what a gather must be of which the piece n lacks, and none ahead of it.
func wantLack(t *testing.T, name string, g *Gather, n int) {
	t.Helper()
	wantNext(t, name, g, n, true)
	wantWhole(t, name, g, "", api.ErrNone)
}

// wantAll holds against what a gather must be of which no piece lacks.
func wantAll(t *testing.T, name string, g *Gather, s string) {
	t.Helper()
	wantNext(t, name, g, 0, false)
	wantWhole(t, name, g, s, api.OK)
}

func TestNumbersOfTheChapter(t *testing.T) {
	if api.ErrSpoilt != 140 || api.PieceBytes != 1024 || api.MostPieces != 8192 || api.SumBytes != 32 {
		t.Error(api.ErrSpoilt, api.PieceBytes, api.MostPieces, api.SumBytes)
	}
}

// wantPieces holds pieces against the bytes that were cut.
func wantPieces(t *testing.T, s string, l []api.Piece) {
	t.Helper()
	whole := blake.Sum(s)
	rest := s
	for n, p := range l {
		data := rest[:min(1024, len(rest))]
		rest = rest[len(data):]
		if p.N != n || p.Of != len(l) || p.Data != data || p.Sum != blake.Sum(data) || p.Whole != whole {
			t.Fatalf("of %d bytes, piece %d: %d of %d, %d bytes, %x, %x", len(s), n, p.N, p.Of, len(p.Data), p.Sum, p.Whole)
		}
	}
	if rest != "" {
		t.Fatalf("of %d bytes, %d are in no piece", len(s), len(rest))
	}
}

func TestCutTellsAllPieces(t *testing.T) {
	for _, x := range []struct{ bytes, pieces int }{
		{0, 1}, {1, 1}, {2, 1}, {1023, 1}, {1024, 1},
		{1025, 2}, // the chapter's example
		{2047, 2}, {2048, 2}, {2049, 3}, {3072, 3}, {3073, 4}, {100 * 1024, 100}, {100*1024 + 1, 101},
	} {
		l := cut(t, x.bytes)
		if len(l) != x.pieces {
			t.Errorf("%d bytes are %d pieces, not %d", x.bytes, len(l), x.pieces)
		}
		wantPieces(t, sample(x.bytes), l)
	}
}

// Of any bytes, those too that are alike in all pieces, or are not of a text.
func TestCutOfAnyBytes(t *testing.T) {
	for _, s := range []string{
		strings.Repeat("\x00", 3000), strings.Repeat("\xff", 2048), strings.Repeat("é", 1500), "\xf0\x9f" + strings.Repeat("\x80", 1023),
	} {
		l := cutOf(t, s)
		wantPieces(t, s, l)
		g := gather(t, l)
		for _, p := range l {
			wantAdd(t, "any bytes", g, p, true, api.OK)
		}
		wantAll(t, "any bytes", g, s)
	}
}

// The sums here were worked out by another program: of all bytes, and of the pieces' sums one behind the other.
func TestSumsOfAnotherProgram(t *testing.T) {
	for _, x := range []struct {
		bytes       int
		whole, sums string
	}{
		{0, "69217a3079908094e11121d042354a7c1f55b6482ca1a51e1b250dfd1ed0eef9", "ebaa6baccfe90474750a4dd6b4dc2ef0cf3ab8464a79b2308ab3abfa919779c2"},
		{1, "e34d74dbaf4ff4c6abd871cc220451d2ea2648846c7757fbaac82fe51ad64bea", "4f3ac8d1e747d2f46da2fef81f51cad8be2664acec4b30926083d11b7c811c6c"},
		{1023, "69a638db77efe83f691885a449830027afff862b6eb8898e4a48e4b92a132b40", "cfcacaba45cd04d42937ddf92f0b9459fdb209850f2470ab41958efb748d2f85"},
		{1024, "7c589d1d6ebd695c8037bd6e893a15b0a749245412739f0bb127632b44a00fef", "87f4a93ee93ec455bb96f8fca75cbcc411a5fbd7a9a5a298a97ec4ab43049bef"},
		{1025, "d380705ec0c63fe9eb3f27dcedfdcba071b10e17acb85246999ff8ae06a930fe", "1927074cec9e5c7e30b5c450bcffb6db247bbbd6d2a927a6667081b77854e8cc"},
		{2048, "e43d17cb7eb0c9d26679d8f9df1ed3ac8526ccfea5a7d894b9d269cf5e8ecdff", "9b27c47cb4060545ad6f909d5cd7cd2a3278d8a1cb83a55e70343811b6c434aa"},
		{2049, "9659e3d99497be0a34f13ecb0b0b0ac469e38ab2ccc27780aed66fe0d4ed01f0", "f4974f754246b272fac9becfe1cdc18e0d597affa5668cd08b4af05fed03f543"},
		{5000, "5477815b1a74786ef185968a69f799ee2f6eb59b7f1637be88516d07724bdeaf", "c84cae9b3fad25053d3a18a731d75eb7c3d138e83b7b9955bcc936df05513c12"},
	} {
		var sums strings.Builder
		for _, p := range cut(t, x.bytes) {
			if got := hex.EncodeToString([]byte(p.Whole)); got != x.whole {
				t.Errorf("the sum of all %d bytes is %s", x.bytes, got)
			}
			sums.WriteString(p.Sum)
		}
		if got := hex.EncodeToString([]byte(blake.Sum(sums.String()))); got != x.sums {
			t.Errorf("the sum of the sums of %d bytes is %s", x.bytes, got)
		}
	}
}

func TestTheMostPieces(t *testing.T) {
	s := sample(most)
	for _, n := range []int{most, most - 1, most - 1023} {
		l := cutOf(t, s[:n])
		if len(l) != 8192 {
			t.Fatalf("%d bytes are %d pieces", n, len(l))
		}
		g := gather(t, l)
		for i := range l {
			wantNext(t, "the most", g, i, true)
			wantAdd(t, "the most", g, l[i], true, api.OK)
		}
		wantAll(t, "the most", g, s[:n])
	}
	if l := cutOf(t, s[:most-1024]); len(l) != 8191 {
		t.Errorf("one piece less: %d", len(l))
	}
}

func TestCutOfTooManyBytes(t *testing.T) {
	s := strings.Repeat("a", 2*most)
	for _, n := range []int{most + 1, most + 1023, most + 1024, most + 1025, 2 * most} {
		if l, e := Cut(s[:n]); len(l) != 0 || e != api.ErrOver {
			t.Errorf("%d bytes: %d pieces, %d", n, len(l), e)
		}
	}
}

func TestNewHasNothing(t *testing.T) {
	for _, of := range []int{1, 2, 3, 8191, 8192} {
		for _, whole := range []string{blake.Sum("a"), strings.Repeat("\x00", 32), strings.Repeat("é", 16)} {
			g, e := New(whole, of)
			if e != api.OK || g == nil {
				t.Fatalf("New of %x, %d: %d", whole, of, e)
			}
			wantLack(t, "new", g, 0)
		}
	}
}

func TestNewOfWhatMayNotBe(t *testing.T) {
	good := blake.Sum("a")
	for _, of := range []int{0, -1, 8193, 8194, math.MinInt, math.MaxInt, 1<<32 + 1} {
		if g, e := New(good, of); g != nil || e != api.ErrInput {
			t.Errorf("of %d: %v, %d", of, g, e)
		}
	}
	for _, n := range []int{0, 1, 31, 33, 64, 1000} {
		for _, of := range []int{1, 8192, 0} {
			if g, e := New(sample(n), of); g != nil || e != api.ErrInput {
				t.Errorf("a sum of %d bytes, of %d: %v, %d", n, of, g, e)
			}
		}
	}
	if g, e := New(strings.Repeat("é", 32), 1); g != nil || e != api.ErrInput { // bytes are counted, not runes
		t.Errorf("32 runes: %v, %d", g, e)
	}
}

// orders are the pieces' places in several orders.
func orders(of int) [][]int {
	var rising, odd []int
	for n := range of {
		rising = append(rising, n)
		if n%2 == 1 {
			odd = append(odd, n)
		}
	}
	for n := 0; n < of; n += 2 {
		odd = append(odd, n)
	}
	falling := slices.Clone(rising)
	slices.Reverse(falling)
	return [][]int{rising, falling, odd}
}

func TestPiecesComeInAnyOrder(t *testing.T) {
	for _, bytes := range lengths() {
		l := cut(t, bytes)
		for _, order := range orders(len(l)) {
			g := gather(t, l)
			there := make([]bool, len(l))
			for _, n := range order {
				wantLack(t, "on the way", g, slices.Index(there, false))
				wantAdd(t, "on the way", g, l[n], true, api.OK)
				wantAdd(t, "again", g, l[n], false, api.OK)
				there[n] = true
			}
			for _, n := range order {
				wantAll(t, "all", g, sample(bytes))
				wantAdd(t, "once more", g, l[n], false, api.OK)
			}
			wantAll(t, "all, once more", g, sample(bytes))
		}
	}
}

// One piece alone lacks: it is the next one, wherever it stands.
func TestOneThatLacks(t *testing.T) {
	l := cut(t, 5000)
	for lack := range l {
		g := gather(t, l)
		for n, p := range l {
			if n != lack {
				wantAdd(t, "but one", g, p, true, api.OK)
			}
		}
		wantLack(t, "but one", g, lack)
		wantAdd(t, "the last one to come", g, l[lack], true, api.OK)
		wantAll(t, "all", g, sample(5000))
	}
}

// A piece of no bytes is there, or it is not, though it adds nothing.
func TestNoBytesAreAPieceThatMayLack(t *testing.T) {
	l := cut(t, 0)
	if want := (api.Piece{N: 0, Of: 1, Data: "", Sum: blake.Sum(""), Whole: blake.Sum("")}); len(l) != 1 || l[0] != want {
		t.Fatalf("no bytes are %d pieces", len(l))
	}
	g := gather(t, l)
	wantLack(t, "no bytes", g, 0)
	wantAdd(t, "no bytes", g, l[0], true, api.OK)
	wantAll(t, "no bytes", g, "")
	wantAdd(t, "no bytes", g, l[0], false, api.OK)
}

// wrong is a piece that may not be, or is spoilt.
type wrong struct {
	name string
	p    api.Piece
}

// strangers are pieces that are none of these, whatever their bytes are.
func strangers(l []api.Piece, n int) []wrong {
	var out []wrong
	for _, which := range []int{-1, -2, len(l), len(l) + 1, 8192, math.MinInt, math.MaxInt, 1<<32 + n} {
		p := l[n]
		p.N = which
		out = append(out, wrong{"which " + strconv.Itoa(which), p})
	}
	for _, of := range []int{0, -1, len(l) - 1, len(l) + 1, -len(l), 8192, math.MinInt, math.MaxInt, 1<<32 + len(l)} {
		p := l[n]
		p.Of = of
		out = append(out, wrong{"of " + strconv.Itoa(of), p})
	}
	whole := l[n].Whole
	for _, x := range []string{"", whole[:31], whole + "\x00", flipped(whole, 0, 128), flipped(whole, 31, 1), blake.Sum("a"), l[n].Sum} {
		p := l[n]
		p.Whole = x
		if x != whole {
			out = append(out, wrong{"whole " + hex.EncodeToString([]byte(x)), p})
		}
	}
	return out
}

// misfits are pieces with more bytes than one may have, or, of those that are not the last one, with fewer.
func misfits(l []api.Piece, n int) []wrong {
	var out []wrong
	for _, bytes := range []int{0, 1, 512, 1022, 1023, 1025, 1026, 2048, 100000} {
		if bytes > 1024 || n < len(l)-1 {
			out = append(out, wrong{strconv.Itoa(bytes) + " bytes", other(l[n], sample(bytes))})
		}
	}
	return out
}

// wantRefused holds wrong pieces against a gather that has, and one that has not, the piece of their place.
func wantRefused(t *testing.T, l []api.Piece, n int, w wrong, e api.Errno) {
	t.Helper()
	g := gather(t, l)
	wantAdd(t, w.name, g, w.p, false, e)
	wantLack(t, w.name, g, 0)
	for i, p := range l {
		if i != n {
			wantAdd(t, w.name, g, p, true, api.OK)
		}
	}
	wantAdd(t, w.name, g, w.p, false, e)
	wantLack(t, w.name, g, n)
	wantAdd(t, w.name, g, l[n], true, api.OK)
	wantAdd(t, w.name, g, w.p, false, e)
	wantAll(t, w.name, g, sample(5000)[:bytesOf(l)])
}

// bytesOf is how many bytes pieces have.
func bytesOf(l []api.Piece) int { return (len(l)-1)*1024 + len(l[len(l)-1].Data) }

func TestAddOfWhatIsNoneOfThese(t *testing.T) {
	for _, bytes := range []int{0, 1000, 1024, 1025, 3000, 4096} {
		l := cut(t, bytes)
		for n := range l {
			for _, w := range slices.Concat(strangers(l, n), misfits(l, n)) {
				wantRefused(t, l, n, w, api.ErrInput)
				w.p.Sum = blake.Sum("another one") // ErrInput is named first
				wantRefused(t, l, n, w, api.ErrInput)
				w.p.Sum = ""
				wantRefused(t, l, n, w, api.ErrInput)
			}
		}
	}
}

func TestAddOfSpoiltPieces(t *testing.T) {
	for _, bytes := range []int{0, 1, 1024, 1025, 3000} {
		l := cut(t, bytes)
		for n, p := range l {
			for name, sum := range map[string]string{
				"no sum":         "",
				"a short sum":    p.Sum[:31],
				"a long sum":     p.Sum + "\x00",
				"its first bit":  flipped(p.Sum, 0, 1),
				"its last bit":   flipped(p.Sum, 31, 128),
				"noughts":        strings.Repeat("\x00", 32),
				"of other bytes": blake.Sum("other bytes"),
			} {
				p.Sum = sum
				wantRefused(t, l, n, wrong{name, p}, api.ErrSpoilt)
			}
		}
	}
}

// Each byte of a piece is held against its sum.
func TestAddOfSpoiltBytes(t *testing.T) {
	l := cut(t, 1500)
	g := gather(t, l)
	for n, p := range l {
		for i := range len(p.Data) {
			for _, bits := range []byte{1, 128} {
				p.Data = flipped(l[n].Data, i, bits)
				wantAdd(t, "a byte", g, p, false, api.ErrSpoilt)
			}
		}
	}
	p := l[1]
	for bytes := range 1025 { // of the last one any lesser length may be: its sum tells
		if bytes != len(l[1].Data) {
			p.Data = sample(2048)[1024 : 1024+bytes]
			wantAdd(t, "bytes that lack, or are added", g, p, false, api.ErrSpoilt)
		}
	}
	wantLack(t, "all were spoilt", g, 0)
}

// The last piece may have as many bytes as it likes, up to those of a piece: all bytes' sum tells.
func TestTheLastPieceMayHaveFewerBytes(t *testing.T) {
	l := cut(t, 1500)
	for bytes := range 1025 {
		g := gather(t, l)
		wantAdd(t, "the first one", g, l[0], true, api.OK)
		wantAdd(t, "the last one", g, other(l[1], sample(2048)[1024:1024+bytes]), true, api.OK)
		wantNext(t, "all", g, 0, false)
		if bytes == 476 {
			wantWhole(t, "as many as it had", g, sample(1500), api.OK)
		} else {
			wantWhole(t, "more, or fewer", g, "", api.ErrSpoilt)
		}
	}
}

// Pieces that agree with their own sums alone: the sum of all tells.
func TestWholeOfOtherBytes(t *testing.T) {
	l := cut(t, 3000)
	for n, p := range l {
		g := gather(t, l)
		wantAdd(t, "other bytes", g, other(p, flipped(p.Data, len(p.Data)-1, 1)), true, api.OK)
		for i := range l {
			if _, lacks := g.Next(); lacks {
				wantWhole(t, "one lacks: it is named first", g, "", api.ErrNone)
			}
			wantAdd(t, "the others", g, l[i], i != n, api.OK) // what came first stays
		}
		wantNext(t, "all", g, 0, false)
		for range 2 {
			wantWhole(t, "all", g, "", api.ErrSpoilt)
		}
	}
}

// The bytes stand in the pieces' order: two that were changed for one another are found out.
func TestWholeOfPiecesThatWereChanged(t *testing.T) {
	l := cut(t, 3072)
	g := gather(t, l)
	wantAdd(t, "the second's bytes", g, other(l[0], l[1].Data), true, api.OK)
	wantAdd(t, "the first's bytes", g, other(l[1], l[0].Data), true, api.OK)
	wantAdd(t, "its own bytes", g, l[2], true, api.OK)
	wantNext(t, "all", g, 0, false)
	wantWhole(t, "all", g, "", api.ErrSpoilt)
}

// A piece is a new one by its place: what came first stays, be it right or not.
func TestWhatCameFirstStays(t *testing.T) {
	l := cut(t, 3000)
	g := gather(t, l)
	for _, p := range l {
		wantAdd(t, "right", g, p, true, api.OK)
		wantAdd(t, "other bytes behind it", g, other(p, strings.Repeat("x", 1024)), false, api.OK)
	}
	wantAdd(t, "no bytes behind the last one", g, other(l[2], ""), false, api.OK)
	wantAll(t, "all", g, sample(3000))
}

func TestNilOnes(t *testing.T) {
	for name, g := range map[string]*Gather{"nil": nil, "not made by New": {}} {
		for _, p := range append(cut(t, 1500), api.Piece{}, api.Piece{Sum: blake.Sum("")}, cut(t, 0)[0]) {
			wantAdd(t, name, g, p, false, api.ErrInput)
			p.Sum = ""
			wantAdd(t, name, g, p, false, api.ErrInput)
		}
		wantNext(t, name, g, 0, false)
		wantWhole(t, name, g, "", api.ErrInput)
	}
}

func TestWhatIsToldIsTheCallersOwn(t *testing.T) {
	s := sample(2500)
	first := cutOf(t, s)
	g, h := gather(t, first), gather(t, first)
	for i := range first {
		wantAdd(t, "as it was", g, first[i], true, api.OK)
		first[i] = api.Piece{}
	}
	wantPieces(t, s, cutOf(t, s))
	wantAll(t, "the pieces were changed", g, s)
	wantLack(t, "another one of these", h, 0)
}

// Two that are put together at once have nothing to do with each other.
func TestTwoAtOnce(t *testing.T) {
	a, b := cut(t, 3000), cutOf(t, strings.Repeat("b", 3000))
	g, h := gather(t, a), gather(t, b)
	for n := range a {
		wantAdd(t, "its own", g, a[n], true, api.OK)
		wantAdd(t, "the other's", g, b[n], false, api.ErrInput)
		wantLack(t, "the other one", h, n)
		wantAdd(t, "the other's", h, a[n], false, api.ErrInput)
		wantAdd(t, "its own", h, b[n], true, api.OK)
	}
	wantAll(t, "the one", g, sample(3000))
	wantAll(t, "the other one", h, strings.Repeat("b", 3000))
}

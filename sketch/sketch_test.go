package sketch

import (
	"crypto/sha256"
	"encoding/hex"
	"strconv"
	"strings"
	"testing"

	"hawthorn/api"
	"hawthorn/wire"
)

// The numbers and bytes that are asked for here were worked out from the document by another program.

const most = 1<<64 - 1

// made is a new one to which keys were added.
func made(t *testing.T, wide int, seed uint64, keys ...string) *Sketch {
	t.Helper()
	s, e := New(wide, seed)
	if e != api.OK || s == nil {
		t.Fatalf("New(%d, %d) is %v, %d", wide, seed, s, e)
	}
	for _, key := range keys {
		s.Add(key)
	}
	return s
}

// addRow adds the keys from one to another one of a row that repeats itself, some of them more often.
func addRow(s *Sketch, from, to int) {
	for i := from; i < to; i++ {
		s.Add("k" + strconv.Itoa(i*i%37))
	}
}

// bytesOf is the bytes of base 16, blanks aside.
func bytesOf(t *testing.T, text string) string {
	t.Helper()
	b, err := hex.DecodeString(strings.ReplaceAll(text, " ", ""))
	if err != nil {
		t.Fatal(err)
	}
	return string(b)
}

func wantExport(t *testing.T, name string, s *Sketch, want string) {
	t.Helper()
	if got := s.Export(); got != bytesOf(t, want) {
		t.Errorf("%s: the bytes are %x, not %s", name, got, want)
	}
}

func wantSeen(t *testing.T, s *Sketch, key string, want int) {
	t.Helper()
	if got := s.Seen(key); got != want {
		t.Errorf("%.20q was seen %d times, not %d", key, got, want)
	}
}

func TestNewOfAWidth(t *testing.T) {
	for _, wide := range []int{1, 2, 100, api.MostWide} {
		for _, seed := range []uint64{0, 9, most} {
			s := made(t, wide, seed)
			if s.Wide() != wide || s.Added() != 0 || s.Seen("key") != 0 {
				t.Errorf("New(%d, %d) has width %d, %d additions, and saw a key %d times", wide, seed, s.Wide(), s.Added(), s.Seen("key"))
			}
		}
	}
	for _, wide := range []int{0, -1, -1 << 63, api.MostWide + 1, 1<<63 - 1} {
		if s, e := New(wide, 7); s != nil || e != api.ErrInput {
			t.Errorf("New(%d, 7) is %v, %d", wide, s, e)
		}
	}
}

func TestSeenCountsAdditions(t *testing.T) {
	for _, key := range []string{"key", "", "\x00", "\xff\xfe", strings.Repeat("long", 100)} {
		s := made(t, 100, 3)
		for times := range 10 {
			wantSeen(t, s, key, times)
			s.Add(key)
			if s.Added() != times+1 {
				t.Errorf("%d additions, not %d", s.Added(), times+1)
			}
		}
		wantSeen(t, s, key+"another", 0)
	}
}

func TestSeenIsAtMostOneAboveACounter(t *testing.T) {
	s := made(t, 100, 3)
	for range 200 {
		s.Add("key")
	}
	wantSeen(t, s, "key", api.MostNote+1)
	if s.Added() != 200 {
		t.Error("additions:", s.Added())
	}
	s.Age()
	wantSeen(t, s, "key", api.MostNote/2) // with the door empty, there is none more
}

// The first addition is noted at the door alone, the next ones in all four rows.
func TestAddNotesAtTheDoorFirst(t *testing.T) {
	s := made(t, 4, 1)
	wantExport(t, "none", s, "04 01 00 00000000 00000000 00000000 00000000 00000000")
	s.Add("a")
	wantExport(t, "one", s, "04 01 01 00000000 00000000 00000000 00000000 00010000")
	s.Add("a")
	wantExport(t, "two", s, "04 01 02 01000000 01000000 00010000 00000001 00010000")
	s.Add("b") // its bit at the door is a's: it counts as if it had been seen
	wantExport(t, "another one", s, "04 01 03 01000001 01000000 00010000 01000001 00010000")
	wantSeen(t, s, "b", 2)
	s.Add("a")
	wantExport(t, "three", s, "04 01 04 02000001 02000000 00020000 01000002 00010000")
	wantSeen(t, s, "a", 3)
	wantSeen(t, s, "b", 2)
}

// By the seed 12, a and b have the same counters in the first row and in the last one.
func TestAddGrowsTheLeastCountersAlone(t *testing.T) {
	s := made(t, 4, 12, "a", "a", "a", "a", "b", "b", "b")
	wantExport(t, "a and b", s, "04 0c 07 00000300 02000003 03020000 00030000 00000101")
	wantSeen(t, s, "a", 4)
	wantSeen(t, s, "b", 3)
}

func TestAddOfManyKeys(t *testing.T) {
	for _, x := range []struct {
		wide   int
		seed   uint64
		adds   int
		added  int
		seen   int // of k0
		export string
	}{
		{1, 0, 9, 9, 9, "e7282cb9bd49e74ac724a4bcd11d7e2febd69584b1b723425653d56574222d7c"},
		{1, 0, 10, 5, 4, "4ec2849548495c820ad1f410cc428de3aadacce9fca6c65e151b4fbf26f51358"},
		{8, 7, 79, 79, 7, "69e41dfd0402ac0a1b8dd7aa63e8423a595e4289c1cfe3f9ea9a6f5e88daaac8"},
		{8, 7, 80, 40, 3, "222effbb5ecd4002a88e0a2bb0fe41666260ffbbcc805ef98824563e0b35ec4f"},
		{8, 7, 81, 41, 3, "383fed025ee0bffc467fc0fef26fdde03b7ed8240740413580161c61161bcc13"},
		{100, 3, 500, 500, 14, "709e0ed476f2effd45e8ccbcb7f84f8ad21394f8a4a8aa6b58e13add75b18aad"},
		{100, 3, 999, 999, 16, "7e8bd17b5d0a4b163433bb90b48b53091f293f81f0c46cea5da1b38f42c6eb94"},
		{100, 3, 1000, 500, 7, "65231230d87a2f3d4fac29afd5d78b74f3e4ad6b5a28ef7ee0129c265dab1cd8"},
		{100, most, 2500, 500, 7, "b5907144588c38b7a162ef64664be4f78cbd398cda6319f852957ceb056c6520"},
		{4096, 5, 3000, 3000, 16, "c638c5b92ad153294af7f41843fed0951807b15e1a93625dc91d067dad480b28"},
		{4096, 5, 40959, 40959, 16, "db8be45bc3a2e6ca867f87661fc20fb02031ae183042540eab6e966529f60664"},
		{4096, 5, 40960, 20480, 7, "07ad194c64e8d3535ffa2e63fb366bbf35d6bd41dfa8ea068e52537d7f1ae44c"},
		{37, 1 << 63, 1000, 260, 7, "7fecbceb996ce08f88b3cd27a67ec4cbf6018a9a3d89cfda8df75cc0236dfad5"},
	} {
		s := made(t, x.wide, x.seed)
		addRow(s, 0, x.adds)
		sum := sha256.Sum256([]byte(s.Export()))
		if got := hex.EncodeToString(sum[:]); got != x.export {
			t.Errorf("width %d, seed %d, %d additions: the sum of the bytes is %s, not %s", x.wide, x.seed, x.adds, got, x.export)
		}
		if s.Added() != x.added || s.Seen("k0") != x.seen {
			t.Errorf("width %d, seed %d: %d additions, not %d; k0 was seen %d times, not %d", x.wide, x.seed, s.Added(), x.added, s.Seen("k0"), x.seen)
		}
	}
}

func TestAgeHalvesAndEmptiesTheDoor(t *testing.T) {
	s := made(t, 4, 1, "a", "a", "b", "a", "a")
	wantExport(t, "ahead", s, "04 01 05 03000001 03000000 00030000 01000003 00010000")
	s.Age()
	wantExport(t, "once", s, "04 01 02 01000000 01000000 00010000 00000001 00000000")
	wantSeen(t, s, "a", 1)
	s.Age()
	wantExport(t, "twice", s, "04 01 01 00000000 00000000 00000000 00000000 00000000")
	s.Age()
	s.Age()
	wantExport(t, "four times", s, "04 01 00 00000000 00000000 00000000 00000000 00000000")
	s.Add("a")
	wantSeen(t, s, "a", 1) // at the door again
	wantExport(t, "behind", s, "04 01 01 00000000 00000000 00000000 00000000 00010000")
}

func TestAddAgesAtTheSample(t *testing.T) {
	s := made(t, 1, 0)
	for range 9 {
		s.Add("a")
	}
	wantExport(t, "nine", s, "01 00 09 08 08 08 08 01")
	s.Add("a") // it is noted, and then all is halved
	wantExport(t, "ten", s, "01 00 05 04 04 04 04 00")
	s.Add("b") // at the door again
	for range 4 {
		s.Add("a")
	}
	wantExport(t, "fifteen", s, "01 00 05 04 04 04 04 00")
}

func TestExportHasNumbersRowsAndDoor(t *testing.T) {
	s := made(t, 5, 300)
	for i := range 20 {
		s.Add([]string{"a", "b"}[i*i%3%2])
	}
	wantExport(t, "width 5", s, "05 ac02 14 000c000600 0000060c00 0c00060000 00000c0600 0100010000")
	wide := made(t, api.MostWide, most).Export()
	head := wire.Num(api.MostWide) + wire.Num(most) + wire.Num(0)
	if wide != head+strings.Repeat("\x00", 5*api.MostWide) {
		t.Errorf("the widest one without anything has %d bytes: %x ..", len(wide), wide[:20])
	}
}

func TestImportGoesOnAsItWas(t *testing.T) {
	for _, x := range []struct {
		wide int
		seed uint64
		adds int
	}{{1, 0, 0}, {1, 1, 9}, {1, 1, 10}, {7, most, 69}, {7, 0, 70}, {100, 3, 999}, {api.MostWide, 5, 5000}} {
		s := made(t, x.wide, x.seed)
		addRow(s, 0, x.adds)
		before := s.Export()
		same, e := Import(before)
		if e != api.OK || same == nil {
			t.Fatalf("width %d, %d additions: %v, %d", x.wide, x.adds, same, e)
		}
		if same.Export() != before || same.Wide() != s.Wide() || same.Added() != s.Added() {
			t.Errorf("width %d, %d additions: another one comes back", x.wide, x.adds)
		}
		addRow(s, x.adds, x.adds+200)
		if same.Export() != before {
			t.Errorf("width %d: what is done to the one is done to the other", x.wide)
		}
		addRow(same, x.adds, x.adds+200)
		if same.Export() != s.Export() {
			t.Errorf("width %d: it goes on otherwise", x.wide)
		}
	}
}

// The fullest that may be: all counters and bits, and one addition less than that at which it ages.
func TestImportOfTheFullest(t *testing.T) {
	for _, wide := range []int{1, 2, api.MostWide} {
		full := wire.Num(uint64(wide)) + wire.Num(most) + wire.Num(uint64(10*wide-1)) + strings.Repeat("\x0f", 4*wide) + strings.Repeat("\x01", wide)
		s, e := Import(full)
		if e != api.OK || s.Export() != full || s.Added() != 10*wide-1 {
			t.Fatalf("width %d: %d", wide, e)
		}
		wantSeen(t, s, "any", 16)
		s.Add("any")
		wantSeen(t, s, "any", 7)
		if s.Added() != 5*wide {
			t.Errorf("width %d: %d additions", wide, s.Added())
		}
	}
}

func TestImportTellsWhatCantBe(t *testing.T) {
	for _, x := range []struct {
		name, s string
		want    api.Errno
	}{
		{"two wide", "02 05 13 0f00 0001 0203 0405 0100", api.OK},
		{"nothing", "", api.ErrShort},
		{"width 0", "00", api.ErrForm}, // ahead of the bytes' end
		{"width 0, and all the rest", "00 05 00", api.ErrForm},
		{"width 0, and a wrong seed", "00 8000", api.ErrForm},
		{"the widest, cut", "8020", api.ErrShort},
		{"too wide", "8120", api.ErrOver},
		{"much too wide", "ffffffffffffffffff01", api.ErrOver},
		{"a width of 65 bits", "80808080808080808002", api.ErrForm},
		{"a width not in its shortest form", "8200", api.ErrForm},
		{"a seed not in its shortest form", "02 8500", api.ErrForm},
		{"the greatest seed", "01 ffffffffffffffffff01 00 00000000 00", api.OK},
		{"a seed of 65 bits", "01 ffffffffffffffffff02 00 00000000 00", api.ErrForm},
		{"additions at the sample", "02 05 14", api.ErrOver}, // ahead of the bytes' end
		{"additions at the sample, all there", "02 05 14 0000 0000 0000 0000 0000", api.ErrOver},
		{"additions above it", "02 05 ffffffffffffffffff01", api.ErrOver},
		{"additions one below it", "02 05 13 0000 0000 0000 0000 0000", api.OK},
		{"additions at the sample of width 1", "01 05 0a 00 00 00 00 00", api.ErrOver},
		{"additions one below it of width 1", "01 05 09 00 00 00 00 00", api.OK},
		{"additions ahead of a counter", "02 05 14 1010", api.ErrOver},
		{"a counter above 15", "02 05 00 1000 0000 0000 0000 0000", api.ErrForm},
		{"the last counter above 15", "02 05 00 0000 0000 0000 0010 0000", api.ErrForm},
		{"a counter of 255", "02 05 00 0000 00ff 0000 0000 0000", api.ErrForm},
		{"a row that is wrong, and the end", "02 05 00 0010", api.ErrForm}, // as soon as the row was read
		{"half a row that is wrong", "02 05 00 10", api.ErrShort},
		{"a second half row that is wrong", "02 05 00 0000 10", api.ErrShort},
		{"a counter ahead of a bit", "02 05 00 0000 0000 0000 0010 0200", api.ErrForm},
		{"a bit of 2", "02 05 00 0000 0000 0000 0000 0200", api.ErrForm},
		{"the last bit of 255", "02 05 00 0000 0000 0000 0000 01ff", api.ErrForm},
		{"a first bit of 2, and the end", "02 05 00 0000 0000 0000 0000 02", api.ErrForm},
		{"a bit too few", "02 05 00 0000 0000 0000 0000 01", api.ErrShort},
		{"a byte too many", "02 05 00 0000 0000 0000 0000 0101 00", api.ErrExtra},
		{"a wrong bit ahead of one too many", "02 05 00 0000 0000 0000 0000 0103 00", api.ErrForm},
	} {
		s, e := Import(bytesOf(t, x.s))
		if e != x.want || (s != nil) != (e == api.OK) {
			t.Errorf("%s: %v, %d, not %d", x.name, s, e, x.want)
		}
	}
}

func TestImportOfBytesThatEnd(t *testing.T) {
	s := made(t, 6, 300)
	addRow(s, 0, 50)
	all := s.Export()
	for n := range all {
		if s, e := Import(all[:n]); s != nil || e != api.ErrShort {
			t.Errorf("%d bytes of %d: %v, %d", n, len(all), s, e)
		}
	}
}

func TestTakeLeavesWhatIsBehind(t *testing.T) {
	a, b := made(t, 3, 1, "a", "a"), made(t, 9, 2, "b", "a", "b")
	e := wire.Read("x"+a.Export()+b.Export()+"yz", func(r *wire.Reader) {
		r.Bytes(1)
		if got := Take(r); got.Export() != a.Export() {
			t.Errorf("the first one is %x", got.Export())
		}
		got := Take(r)
		if got.Export() != b.Export() {
			t.Errorf("the second one is %x", got.Export())
		}
		got.Add("b")
		if r.Left() != 2 || r.Bytes(2) != "yz" {
			t.Error("left:", r.Left())
		}
	})
	if e != api.OK {
		t.Error(e)
	}
}

func TestTakeEndsTheReading(t *testing.T) {
	for _, x := range []struct {
		s    string
		want api.Errno
	}{
		{"", api.ErrShort},
		{"00", api.ErrForm},
		{"8120", api.ErrOver},
		{"01 05 0a", api.ErrOver},
		{"01 05 00 10", api.ErrForm},
		{"01 05 00 00 00 00 00 02", api.ErrForm},
		{"01 05 00 00 00 00 00", api.ErrShort},
	} {
		e := wire.Read(bytesOf(t, x.s), func(r *wire.Reader) {
			Take(r)
			t.Errorf("%s: it goes on", x.s)
		})
		if e != x.want {
			t.Errorf("%s: %d, not %d", x.s, e, x.want)
		}
	}
}

func TestTakeWhereNothingIsRead(t *testing.T) {
	var over *wire.Reader
	bytes := made(t, 3, 1, "a").Export()
	wire.Read(bytes, func(r *wire.Reader) { over = r })
	for _, r := range []*wire.Reader{nil, {}, over} {
		if s := Take(r); s != nil {
			t.Errorf("%v", s)
		}
	}
}

func TestNilHasNothing(t *testing.T) {
	for _, s := range []*Sketch{nil, {}} {
		s.Add("key")
		s.Age()
		s.Add("")
		if s.Seen("key") != 0 || s.Wide() != 0 || s.Added() != 0 || s.Export() != "" {
			t.Errorf("%v: seen %d, width %d, %d additions, bytes %x", s, s.Seen("key"), s.Wide(), s.Added(), s.Export())
		}
	}
}

func TestTwoShareNothing(t *testing.T) {
	a, b := made(t, 4, 1), made(t, 4, 1)
	before := b.Export()
	for range 100 {
		a.Add("key")
	}
	if b.Export() != before {
		t.Error("what is done to the one is done to the other")
	}
}

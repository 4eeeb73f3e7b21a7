package log

import (
	"math"
	"slices"
	"strconv"
	"strings"
	"testing"

	"hawthorn/api"
)

const last = math.MaxUint64 // the greatest place

// record is one for a place, told apart from others by all that it has.
func record(seq uint64) api.Record {
	text := strconv.FormatUint(seq, 10)
	o := api.Op{Kind: api.OpCas, Key: "k" + text, Value: "v" + text, TTL: seq ^ 4, Version: seq ^ 5}
	return api.Record{Seq: seq, Now: seq ^ 1, Session: seq ^ 2, Num: seq ^ 3, Op: o}
}

// records are those behind a place, up to one.
func records(behind, to uint64) []api.Record {
	var l []api.Record
	for seq := behind; seq < to; seq++ {
		l = append(l, record(seq+1))
	}
	return l
}

// must is a new log.
func must(t *testing.T, base uint64, most int) *Log {
	t.Helper()
	l, e := New(base, most)
	if e != api.OK || l == nil {
		t.Fatalf("New(%d, %d): %v, %d", base, most, l, e)
	}
	return l
}

// filled is a log that has all records up to a place.
func filled(t *testing.T, base uint64, most int, to uint64) *Log {
	t.Helper()
	l := must(t, base, most)
	for _, x := range records(base, to) {
		if e := l.Add(x); e != api.OK {
			t.Fatalf("Add of %d: %d", x.Seq, e)
		}
	}
	return l
}

// wantLog holds all that is told of a log against what it must have: all records behind base, up to one.
func wantLog(t *testing.T, name string, l *Log, base, to uint64, room int) {
	t.Helper()
	if l.Base() != base || l.Last() != to || l.Room() != room {
		t.Fatalf("%s: base %d, last %d, room %d, not %d, %d, %d", name, l.Base(), l.Last(), l.Room(), base, to, room)
	}
	wantFrom(t, name, l, base, api.MostLog, records(base, to))
}

// wantFrom holds the records behind a place against those that must be.
func wantFrom(t *testing.T, name string, l *Log, seq uint64, most int, want []api.Record) {
	t.Helper()
	if got, ok := l.From(seq, most); !ok || !slices.Equal(got, want) {
		t.Fatalf("%s: From(%d, %d) is %d records %.80v, %v, not %d %.80v", name, seq, most, len(got), got, ok, len(want), want)
	}
}

// wantNoneFrom holds a place against a log that can't tell what is behind it.
func wantNoneFrom(t *testing.T, name string, l *Log, seq uint64, most int) {
	t.Helper()
	if got, ok := l.From(seq, most); ok || len(got) != 0 {
		t.Fatalf("%s: From(%d, %d) is %.80v, %v", name, seq, most, got, ok)
	}
}

func TestNumbersOfTheChapter(t *testing.T) {
	if api.MostLog != 256 || api.ErrFull != 130 {
		t.Error(api.MostLog, api.ErrFull)
	}
}

func TestNewHasNoRecords(t *testing.T) {
	for _, base := range []uint64{0, 1, 5, 1 << 32, 1 << 63, last - 1, last} {
		for _, most := range []int{1, 2, 100, 255, 256} {
			wantLog(t, "new", must(t, base, most), base, base, most)
		}
	}
}

func TestNewOfWhatMayNotBe(t *testing.T) {
	for _, base := range []uint64{0, 5, last} {
		for _, most := range []int{0, -1, 257, 258, 1 << 32, 1<<32 + 1, math.MinInt, math.MinInt + 1, math.MaxInt} {
			if l, e := New(base, most); l != nil || e != api.ErrInput {
				t.Errorf("New(%d, %d): %v, %d", base, most, l, e)
			}
		}
	}
}

// The chapter's example, too: behind base 5 the next one is 6.
func TestAddTakesTheNextOneAlone(t *testing.T) {
	for _, x := range []struct{ base, to, seq uint64 }{
		{0, 0, 0}, {0, 0, 2}, {0, 0, last},
		{5, 5, 5}, {5, 5, 7}, {5, 5, 4}, {5, 5, 0}, {5, 5, 1}, {5, 5, last},
		{5, 7, 5}, {5, 7, 6}, {5, 7, 7}, {5, 7, 9}, {5, 7, 0}, {5, 7, 3}, {5, 7, 1<<32 + 8},
		{last - 1, last - 1, 0}, {last - 1, last - 1, last - 1}, {last - 1, last - 1, 1},
	} {
		for _, add := range []func(l *Log, x api.Record) api.Errno{(*Log).Add, (*Log).Slide} {
			l := filled(t, x.base, 4, x.to)
			room := 4 - int(x.to-x.base)
			if e := add(l, record(x.seq)); e != api.ErrSeq {
				t.Errorf("%d behind %d to %d: %d", x.seq, x.base, x.to, e)
			}
			wantLog(t, "not the next one", l, x.base, x.to, room)
			if e := add(l, record(x.to+1)); e != api.OK {
				t.Errorf("%d behind %d to %d: %d", x.to+1, x.base, x.to, e)
			}
			wantLog(t, "the next one", l, x.base, x.to+1, room-1)
		}
	}
}

// Behind the greatest place there is none: 0 is not the next one, and no other.
func TestNoNextOneBehindTheGreatestPlace(t *testing.T) {
	for _, base := range []uint64{last, last - 1, last - 2} {
		for _, most := range []int{2, 3} {
			l := filled(t, base, most, last)
			for _, seq := range []uint64{0, 1, base, base + 1, last} {
				if e := l.Add(record(seq)); e != api.ErrSeq {
					t.Errorf("Add of %d: %d", seq, e)
				}
				if e := l.Slide(record(seq)); e != api.ErrSeq {
					t.Errorf("Slide of %d: %d", seq, e)
				}
			}
			wantLog(t, "at the greatest place", l, base, last, most-int(last-base))
		}
	}
}

func TestAddWithoutRoom(t *testing.T) {
	for _, base := range []uint64{0, 5, last - 300} {
		for _, most := range []int{1, 2, 3, 255, 256} {
			to := base + uint64(most)
			l := filled(t, base, most, to)
			for range 2 {
				if e := l.Add(record(to + 1)); e != api.ErrFull {
					t.Errorf("the next one of %d: %d", most, e)
				}
			}
			for _, seq := range []uint64{0, base, base + 1, to, to + 2, last} {
				if e := l.Add(record(seq)); e != api.ErrSeq { // it is named first
					t.Errorf("%d, of %d: %d", seq, most, e)
				}
			}
			wantLog(t, "full", l, base, to, 0)
			l.Cut(base + 1)
			if e := l.Add(record(to + 1)); e != api.OK {
				t.Errorf("one went of %d: %d", most, e)
			}
			wantLog(t, "full again", l, base+1, to+1, 0)
		}
	}
}

// A log asks for the places alone: what records are, other layers ask.
func TestAddTakesAnyOperation(t *testing.T) {
	l := must(t, 0, 4)
	want := []api.Record{
		{Seq: 1},
		{Seq: 2, Now: last, Session: last, Num: last, Op: api.Op{Kind: -1, Key: strings.Repeat("k", 100), TTL: last, Version: last}},
		{Seq: 3, Op: api.Op{Kind: 99, Value: strings.Repeat("v", 5000)}},
	}
	for i, x := range want {
		if e := l.Add(x); e != api.OK {
			t.Errorf("record %d: %d", i, e)
		}
	}
	wantFrom(t, "any", l, 0, 9, want)
}

func TestSlideLetsTheFirstOneGoIfThereIsNoRoom(t *testing.T) {
	for _, base := range []uint64{0, 7, last - 700} {
		for _, most := range []int{1, 2, 3, 256} {
			l := must(t, base, most)
			for n := range uint64(most) {
				if e := l.Slide(record(base + n + 1)); e != api.OK {
					t.Fatalf("with room: %d", e)
				}
				wantLog(t, "with room", l, base, base+n+1, most-int(n)-1)
			}
			for n := range uint64(most + 3) {
				to := base + uint64(most) + n
				for _, seq := range []uint64{0, l.Base(), l.Base() + 1, to, to + 2, last} {
					if e := l.Slide(record(seq)); e != api.ErrSeq {
						t.Fatalf("%d behind %d: %d", seq, to, e)
					}
				}
				wantLog(t, "not the next one", l, base+n, to, 0)
				if e := l.Slide(record(to + 1)); e != api.OK {
					t.Fatalf("without room: %d", e)
				}
				wantLog(t, "without room", l, base+n+1, to+1, 0)
			}
		}
	}
}

func TestFromTellsSoManyAtMost(t *testing.T) {
	for _, base := range []uint64{0, 5, last - 10} {
		l := filled(t, base, 12, base+10)
		for behind := range uint64(11) {
			for _, most := range []int{0, 1, 2, 9, 10, 11, 255, 256, 257, math.MaxInt, -1, -2, -256, math.MinInt} {
				n := min(uint64(max(most, 0)), 10-behind)
				wantFrom(t, "so many", l, base+behind, most, records(base+behind, base+behind+n))
			}
		}
		wantLog(t, "told", l, base, base+10, 2)
	}
}

func TestFromAPlaceThatIsNotThere(t *testing.T) {
	l := filled(t, 5, 8, 9)
	empty := must(t, 5, 8)
	top := filled(t, last-2, 8, last)
	for _, most := range []int{-1, 0, 1, 300, math.MinInt, math.MaxInt} {
		for _, seq := range []uint64{0, 1, 4, 10, 11, 1<<32 + 6, 1 << 63, last - 1, last} {
			wantNoneFrom(t, "behind 5 to 9", l, seq, most)
		}
		for _, seq := range []uint64{0, 4, 6, 7, last} {
			wantNoneFrom(t, "behind 5", empty, seq, most)
		}
		for _, seq := range []uint64{0, 1, last - 3} {
			wantNoneFrom(t, "behind the last but two", top, seq, most)
		}
	}
	wantFrom(t, "base", empty, 5, 3, nil)
	wantFrom(t, "the last one", l, 9, 3, nil)
	wantFrom(t, "the greatest place", top, last, 3, nil)
}

func TestCutLetsThoseUpToAPlaceGo(t *testing.T) {
	for _, base := range []uint64{0, 5, last - 4} {
		for _, x := range []struct {
			name      string
			seq, want uint64
		}{
			{"nought", 0, base},
			{"behind the base", base - min(base, 1), base},
			{"the base", base, base},
			{"the first", base + 1, base + 1},
			{"the third", base + 3, base + 3},
			{"all", base + 4, base + 4},
			{"one more", base + 4 + min(1, last-base-4), base + 4},
			{"the greatest place", last, base + 4},
		} {
			l := filled(t, base, 6, base+4)
			l.Cut(x.seq)
			room := 2 + int(x.want-base)
			wantLog(t, x.name, l, x.want, base+4, room)
			if x.want > base {
				wantNoneFrom(t, x.name, l, x.want-1, 9)
			}
			l.Cut(x.seq)
			l.Cut(base)
			wantLog(t, x.name+", again", l, x.want, base+4, room)
		}
	}
}

func TestCutOfAnEmptyOne(t *testing.T) {
	for _, seq := range []uint64{0, 4, 5, 6, 1 << 40, last} {
		l := must(t, 5, 3)
		l.Cut(seq)
		wantLog(t, "empty", l, 5, 5, 3)
		if e := l.Add(record(6)); e != api.OK {
			t.Errorf("the next one: %d", e)
		}
		wantLog(t, "one", l, 5, 6, 2)
	}
}

func TestGoesOnBehindACut(t *testing.T) {
	l := filled(t, 5, 4, 9)
	l.Cut(last)
	wantLog(t, "all went", l, 9, 9, 4)
	for _, seq := range []uint64{5, 6, 9, 11} {
		if e := l.Add(record(seq)); e != api.ErrSeq {
			t.Errorf("%d: %d", seq, e)
		}
	}
	for _, x := range records(9, 13) {
		if e := l.Add(x); e != api.OK {
			t.Errorf("%d: %d", x.Seq, e)
		}
	}
	wantLog(t, "full again", l, 9, 13, 0)
	l.Cut(11)
	if e := l.Slide(record(14)); e != api.OK {
		t.Error(e)
	}
	wantLog(t, "there was room", l, 11, 14, 1)
}

// Records that went are not kept behind those that are left.
func TestRecordsThatWentAreNotKept(t *testing.T) {
	l := filled(t, 0, 8, 8)
	all := l.records // the list's memory, of which the log goes on using a part
	l.Cut(5)
	if !slices.Equal(all, append(records(5, 8), make([]api.Record, 5)...)) {
		t.Errorf("the list has %v", all)
	}
}

func TestWhatIsToldIsTheCallersOwn(t *testing.T) {
	l := filled(t, 5, 6, 9)
	told, _ := l.From(5, 9)
	part, _ := l.From(6, 2)
	for i := range told {
		told[i] = api.Record{}
	}
	wantLog(t, "told was changed", l, 5, 9, 2)
	if !slices.Equal(part, records(6, 8)) {
		t.Errorf("the part has %v", part)
	}
	_ = append(part, api.Record{}) // it must not come behind the part in the log
	wantLog(t, "the part grew", l, 5, 9, 2)
	for _, x := range records(9, 20) {
		l.Slide(x)
	}
	l.Cut(18)
	if !slices.Equal(part, records(6, 8)) {
		t.Errorf("the part has %v, when the log went on", part)
	}
}

func TestNilOnes(t *testing.T) {
	for name, l := range map[string]*Log{"nil": nil, "not made by New": {}} {
		for _, seq := range []uint64{0, 1, 2, last} {
			if e := l.Add(record(seq)); e != api.ErrInput {
				t.Errorf("%s: Add of %d: %d", name, seq, e)
			}
			if e := l.Slide(record(seq)); e != api.ErrInput {
				t.Errorf("%s: Slide of %d: %d", name, seq, e)
			}
			l.Cut(seq)
			for _, most := range []int{-1, 0, 1, 300} {
				wantNoneFrom(t, name, l, seq, most)
			}
		}
		if l.Base() != 0 || l.Last() != 0 || l.Room() != 0 {
			t.Errorf("%s: %d, %d, %d", name, l.Base(), l.Last(), l.Room())
		}
	}
}

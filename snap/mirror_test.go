package snap

import (
	"strconv"
	"strings"
	"testing"

	"hawthorn/api"
	"hawthorn/store"
)

// way is a way between two that goes by a number that looks like chance: it loses pieces, doubles and spoils them, and brings others too late.
type way struct {
	x    uint64
	late api.Piece // that comes behind a later one
}

func (w *way) chance(of uint64) uint64 {
	w.x = w.x*6364136223846793005 + 1442695040888963407
	return w.x >> 33 % of
}

// send is what comes of a piece that is sent.
func (w *way) send(p api.Piece) []api.Piece {
	switch w.chance(8) {
	case 0:
		return nil
	case 1:
		return []api.Piece{p, p}
	case 2:
		return []api.Piece{w.spoilt(p)}
	case 3:
		before := w.late
		w.late = p
		return []api.Piece{before}
	case 4:
		return []api.Piece{p, w.late}
	}
	return []api.Piece{p}
}

// spoilt is a piece of which a bit of something is another one.
func (w *way) spoilt(p api.Piece) api.Piece {
	switch w.chance(5) {
	case 0:
		p.N ^= 1
	case 1:
		p.Of ^= 1
	case 2:
		p.Data = w.flipped(p.Data)
	case 3:
		p.Sum = w.flipped(p.Sum)
	default:
		p.Whole = w.flipped(p.Whole)
	}
	return p
}

func (w *way) flipped(s string) string {
	if s == "" {
		return s
	}
	return flipped(s, int(w.chance(uint64(len(s)))), 1<<w.chance(8))
}

// handOver is bytes as they come by such a way, and how often it began anew: a piece's sum does not tell that its place was spoilt, but the sum of all does.
func handOver(t *testing.T, w *way, s string) (string, int) {
	t.Helper()
	l := cutOf(t, s)
	for anew := range 100 {
		got, e := ask(w, l, gather(t, l))
		if e == api.OK {
			return got, anew
		}
		if e != api.ErrSpoilt {
			t.Fatalf("%d bytes: %d", len(s), e)
		}
	}
	t.Fatalf("%d bytes don't come", len(s))
	return "", 0
}

// ask asks for one piece behind the other, till none lacks.
func ask(w *way, l []api.Piece, g *Gather) (string, api.Errno) {
	for range 1000 * len(l) {
		n, lacks := g.Next()
		if !lacks {
			break
		}
		for _, p := range w.send(l[n]) {
			g.Add(p)
		}
	}
	return g.Whole()
}

// record is the seq-th one of a row: few keys, so that they come again, and values that make several pieces.
func record(w *way, seq uint64) api.Record {
	o := api.Op{Kind: api.OpGet, Key: "k" + strconv.FormatUint(w.chance(40), 10)}
	if w.chance(2) == 0 {
		o.Kind = api.OpPut
		o.Value = strings.Repeat(string(rune('a'+w.chance(26))), int(w.chance(700)))
		o.TTL = w.chance(60)
	}
	return api.Record{Seq: seq, Now: seq / 3, Session: 10 + w.chance(4), Num: seq, Op: o}
}

// T2, as far as this layer goes: a cache that came in pieces is the same bit by bit, and goes on as the one that it came from.
func TestCachesThatCameInPiecesAreMirrors(t *testing.T) {
	for _, kind := range []int{api.PolicyArc, api.PolicyTiny} {
		w := &way{x: uint64(kind)}
		one, e := store.New(api.Config{Policy: kind, Entries: 20, Bytes: 6000, Seed: 7})
		if e != api.OK {
			t.Fatal(e)
		}
		other := one.Copy()
		greatest, anew := 0, 0
		for seq := range uint64(600) {
			x := record(w, seq+1)
			a, e := one.Apply(x)
			b, f := other.Apply(x)
			if a != b || e != api.OK || f != api.OK {
				t.Fatalf("record %d: %v, %d and %v, %d", x.Seq, a, e, b, f)
			}
			if one.Export() != other.Export() || one.Digest() != other.Digest() {
				t.Fatalf("record %d: the caches are no mirrors", x.Seq)
			}
			if seq%10 == 0 {
				bytes, times := handOver(t, w, one.Export())
				greatest = max(greatest, len(bytes))
				anew += times
				if other, e = store.Import(bytes); e != api.OK || bytes != one.Export() {
					t.Fatalf("record %d: what was handed over: %d", x.Seq, e)
				}
			}
		}
		if greatest < 4*api.PieceBytes || anew == 0 {
			t.Errorf("the greatest cache had %d bytes, and %d times one began anew: too little comes about here", greatest, anew)
		}
	}
}

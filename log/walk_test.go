package log

import (
	"testing"

	"hawthorn/api"
)

// plain is a log kept in the plainest way: places alone, since each has one record.
type plain struct {
	base, to uint64
	most     int
}

func (p *plain) room() int { return p.most - int(p.to-p.base) }

func (p *plain) add(seq uint64) api.Errno {
	if p.to == last || seq != p.to+1 {
		return api.ErrSeq
	}
	if p.room() == 0 {
		return api.ErrFull
	}
	p.to++
	return api.OK
}

func (p *plain) slide(seq uint64) api.Errno {
	if e := p.add(seq); e != api.ErrFull {
		return e
	}
	p.base++
	p.to++
	return api.OK
}

func (p *plain) cut(seq uint64) {
	for p.base < p.to && p.base < seq {
		p.base++
	}
}

// near is a place not far from those that a log has, so that all edges come about.
func (p *plain) near(x uint64) uint64 {
	span := p.to - p.base + 5
	return p.base + x%span - min(p.base, 2)
}

func TestLongWalks(t *testing.T) {
	for _, start := range []plain{{0, 0, 1}, {0, 0, 3}, {5, 5, 8}, {last - 40, last - 40, 7}, {1 << 32, 1 << 32, 256}} {
		p := start
		l := must(t, p.base, p.most)
		x := p.base + uint64(p.most)
		for range 3000 {
			x = x*6364136223846793005 + 1442695040888963407
			walk(t, l, &p, x)
			wantLog(t, "walk", l, p.base, p.to, p.room())
		}
	}
}

// walk does one call of both, by a number that looks like chance.
func walk(t *testing.T, l *Log, p *plain, x uint64) {
	t.Helper()
	seq := p.near(x >> 20)
	if x>>50%4 > 0 {
		seq = p.to + 1
	}
	switch kind := x >> 60; {
	case kind < 8:
		if got, want := l.Add(record(seq)), p.add(seq); got != want {
			t.Fatalf("Add of %d: %d, not %d", seq, got, want)
		}
	case kind < 11:
		if got, want := l.Slide(record(seq)), p.slide(seq); got != want {
			t.Fatalf("Slide of %d: %d, not %d", seq, got, want)
		}
	case kind < 13:
		seq = p.near(x >> 20)
		l.Cut(seq)
		p.cut(seq)
	default:
		seq, most := p.near(x>>20), int(x>>40%9)-2
		if seq < p.base || seq > p.to {
			wantNoneFrom(t, "walk", l, seq, most)
			return
		}
		wantFrom(t, "walk", l, seq, most, records(seq, seq+min(uint64(max(most, 0)), p.to-seq)))
	}
}

package quorum

import (
	"math"
	"testing"

	"hawthorn/api"
)

const (
	mostLife = 1<<24 - 1
	topRound = 1 << 30
)

// first is the view that is chosen, and next the one that is wanted.
func first() api.View {
	return api.View{V: 7, Primary: 0, PLife: 1, Backup: 1, BLife: 2, Epoch: 3}
}

func next() api.View {
	return api.View{V: 8, Primary: 1, PLife: 2, Backup: api.Nobody, Epoch: 3}
}

// other is a view that somebody else may want, different by a life.
func other(life uint64) api.View {
	return api.View{V: 8, Primary: 0, PLife: life, Backup: api.Nobody, Epoch: 3}
}

// made is a proposer.
func made(t *testing.T, known, want api.View, me int, life uint64) *Proposer {
	t.Helper()
	p, e := New(known, want, me, life)
	if e != api.OK || p == nil {
		t.Fatalf("New(%+v, %+v, %d, %d): %v, %d", known, want, me, life, p, e)
	}
	return p
}

// begun is one whose first ballot is under way.
func begun(t *testing.T) *Proposer {
	t.Helper()
	p := made(t, first(), next(), 1, 5)
	wantBegin(t, p, 0, 1<<32+11)
	return p
}

// inSecond is one whose second part began by the promises of two, of which each took nothing.
func inSecond(t *testing.T, a, b int) *Proposer {
	t.Helper()
	p := begun(t)
	wantPart(t, p, "first", p.Promised(a, p.Ballot(), nothing()), false)
	wantPart(t, p, "second", p.Promised(b, p.Ballot(), nothing()), true)
	return p
}

// nothing is the promise of an arbiter that took nothing.
func nothing() api.Promise { return api.Promise{OK: true, V: 8, Chosen: first()} }

// taken is the promise of one that took a view.
func taken(v api.View, ballot uint64) api.Promise {
	x := nothing()
	x.Ballot, x.Value = ballot, v
	return x
}

// wantBegin begins a ballot, which must be that one; 0: there is none.
func wantBegin(t *testing.T, p *Proposer, above, want uint64) {
	t.Helper()
	was := p.Ballot()
	if ok := p.Begin(above); ok != (want > 0) {
		t.Errorf("begin above %x: %v", above, ok)
	}
	if want == 0 {
		want = was
	}
	if p.Ballot() != want {
		t.Errorf("begin above %x: ballot %x, want %x", above, p.Ballot(), want)
	}
}

// wantPart holds what a call told against what it must tell, of a part of a ballot.
func wantPart(t *testing.T, p *Proposer, name string, got, want bool) {
	t.Helper()
	if got != want {
		t.Errorf("%s: %v", name, got)
	}
}

// wantSecond holds whether the second part is under way, and with which view.
func wantSecond(t *testing.T, p *Proposer, name string, v api.View) {
	t.Helper()
	if !p.Second() || p.Value() != v {
		t.Errorf("%s: second %v, to be taken is %+v, want %+v", name, p.Second(), p.Value(), v)
	}
}

func TestNumbersOfTheChapter(t *testing.T) {
	if api.Arbiters != 3 || api.MostLife != mostLife+1 {
		t.Error(api.Arbiters, api.MostLife)
	}
}

// view is any view.
func view(number uint64, primary int, pLife uint64, backup int, bLife, epoch uint64) api.View {
	return api.View{V: number, Primary: primary, PLife: pLife, Backup: backup, BLife: bLife, Epoch: epoch}
}

// views is views, and whether each may be.
func views() map[api.View]int {
	const may, not = 1, 0
	const node, life = api.MostNode - 1, math.MaxUint64
	return map[api.View]int{
		first():                                 may,
		next():                                  may,
		view(8, 0, 1, 1, 1, 1):                  may,
		view(8, 0, 1, api.Nobody, 0, 1):         may,
		view(1, 0, 1, api.Nobody, 0, 1):         may,
		view(8, node, life, node-1, life, life): may,

		{}:                                not,
		view(0, 0, 1, 1, 1, 1):            not,
		view(8, 0, 1, 1, 1, 0):            not,
		view(8, 0, 0, 1, 1, 1):            not,
		view(8, 0, 1, 1, 0, 1):            not,
		view(8, 0, 1, 0, 1, 1):            not,
		view(8, node, 1, node, 1, 1):      not,
		view(8, 0, 1, api.Nobody, 1, 1):   not,
		view(8, 0, 0, api.Nobody, 0, 1):   not,
		view(8, -1, 1, api.Nobody, 0, 1):  not,
		view(8, -1, 1, 0, 1, 1):           not,
		view(8, -1, 0, api.Nobody, 0, 1):  not,
		view(8, node+1, 1, 0, 1, 1):       not,
		view(8, 0, 1, node+1, 1, 1):       not,
		view(8, 0, 1, -2, 0, 1):           not,
		view(8, 0, 1, math.MinInt, 0, 1):  not,
		view(8, 0, 1, math.MaxInt, 1, 1):  not,
		view(8, math.MaxInt, 1, -1, 0, 1): not,
	}
}

func TestNewAsksWhetherViewsMayBe(t *testing.T) {
	for v, may := range views() {
		want := next()
		want.V = v.V + 1
		p, e := New(v, want, 0, 1)
		if may == 1 && (e != api.OK || p.Known() != v) || may == 0 && (p != nil || e != api.ErrInput) {
			t.Errorf("known %+v: %v, %d", v, p, e)
		}
		known := first()
		known.V = v.V - 1
		may := may == 1 && v.V > 1 // ahead of the first view there is none
		p, e = New(known, v, 0, 1)
		if may && (e != api.OK || p.Known() != known) || !may && (p != nil || e != api.ErrInput) {
			t.Errorf("want %+v: %v, %d", v, p, e)
		}
	}
}

func TestNewAsksForTheNextView(t *testing.T) {
	for _, known := range []uint64{1, 2, 7, 8, 9, 1 << 32, math.MaxUint64 - 1, math.MaxUint64} {
		for _, want := range []uint64{1, 2, 3, 7, 8, 9, 10, 1<<32 + 1, math.MaxUint64 - 1, math.MaxUint64} {
			k, w := first(), next()
			k.V, w.V = known, want
			p, e := New(k, w, 1, 1)
			if want-known == 1 {
				if e != api.OK || p.Known() != k {
					t.Errorf("%d behind %d: %d", want, known, e)
				}
			} else if p != nil || e != api.ErrInput {
				t.Errorf("%d behind %d: %v, %d", want, known, p, e)
			}
		}
	}
	k, w := first(), next()
	k.V, w.V = math.MaxUint64, 0 // the number wraps round, but 0 may not be
	if p, e := New(k, w, 1, 1); p != nil || e != api.ErrInput {
		t.Errorf("0 behind the last one: %v, %d", p, e)
	}
}

func TestNewAsksForMeAndMyLife(t *testing.T) {
	for _, me := range []int{math.MinInt, -2, -1, 0, 1, 2, 3, 10, 1 << 32, math.MaxInt} {
		for _, life := range []uint64{0, 1, 2, mostLife - 1, mostLife, mostLife + 1, 1 << 32, 1 << 63, math.MaxUint64} {
			may := (me == 0 || me == 1) && life > 0 && life <= mostLife
			p, e := New(first(), next(), me, life)
			if may && (p == nil || e != api.OK) || !may && (p != nil || e != api.ErrInput) {
				t.Errorf("%d in life %d: %v, %d", me, life, p, e)
			}
		}
	}
}

func TestNewHasNoBallot(t *testing.T) {
	p := made(t, first(), next(), 0, 1)
	if p.Ballot() != 0 || p.Second() || p.Known() != first() {
		t.Errorf("ballot %x, second %v, known %+v", p.Ballot(), p.Second(), p.Known())
	}
	for from := range api.Arbiters {
		if p.Promised(from, 0, nothing()) || p.Took(from, 0, nothing()) {
			t.Error("without a ballot there is a yes of", from)
		}
	}
	if p.Second() || p.Ballot() != 0 {
		t.Errorf("without a ballot: ballot %x, second %v", p.Ballot(), p.Second())
	}
}

func TestBallots(t *testing.T) {
	for _, c := range []struct {
		me   int
		life uint64
		end  uint64
	}{{0, 1, 2}, {1, 1, 3}, {0, 2, 4}, {1, 2, 5}, {0, 1 << 23, 1 << 24}, {0, mostLife, 0x1fffffe}, {1, mostLife, 0x1ffffff}} {
		p := made(t, first(), next(), c.me, c.life)
		wantBegin(t, p, 0, 1<<32+c.end)
		wantBegin(t, p, 0, 2<<32+c.end)                // the next one
		wantBegin(t, p, 1<<32+0xffffffff, 3<<32+c.end) // above its own is above that, too
		wantBegin(t, p, p.Ballot(), 4<<32+c.end)       // above its own
		wantBegin(t, p, p.Ballot()-1, 5<<32+c.end)     // of one round, below its own
		wantBegin(t, p, p.Ballot()+1, 6<<32+c.end)     // of one round, above its own
		wantBegin(t, p, 7<<32-1, 7<<32+c.end)          // the end of a round
		wantBegin(t, p, 8<<32, 9<<32+c.end)            // its beginning
		wantBegin(t, p, 100<<32+0xffffffff, 101<<32+c.end)
		wantBegin(t, p, 50<<32, 102<<32+c.end)
	}
}

func TestNoTwoHaveOneBallot(t *testing.T) {
	had := map[uint64]bool{}
	n := 0
	for me := range 2 {
		for _, life := range []uint64{1, 2, 3, 4, 1 << 22, 1 << 23, mostLife - 1, mostLife} {
			p := made(t, first(), next(), me, life)
			for range 20 {
				p.Begin(0)
				had[p.Ballot()] = true
				n++
			}
		}
	}
	if len(had) != n || had[0] {
		t.Errorf("%d ballots, of which %d are unlike", n, len(had))
	}
}

func TestTheLastRound(t *testing.T) {
	const last, end = topRound, uint64(11)
	for _, above := range []uint64{(last - 1) << 32, (last-1)<<32 + 0xffffffff} {
		p := begun(t)
		wantBegin(t, p, above, last<<32+end)
		wantBegin(t, p, 0, 0)
		wantBegin(t, p, p.Ballot(), 0)
	}
	for _, above := range []uint64{last << 32, last<<32 + 1, (last + 1) << 32, 1 << 63, math.MaxUint64 - 1<<32, math.MaxUint64} {
		wantBegin(t, made(t, first(), next(), 1, 5), above, 0)
		p := inSecond(t, 0, 1)
		wantBegin(t, p, above, 0)
		wantSecond(t, p, "no ballot began", next())
		p.Took(2, p.Ballot(), nothing())
		wantPart(t, p, "the one that is under way goes on", p.Took(0, p.Ballot(), nothing()), true)
		wantBegin(t, p, 0, 2<<32+end)
	}
}

func TestTwoPromisesBeginTheSecondPart(t *testing.T) {
	for a := range api.Arbiters {
		for b := range api.Arbiters {
			p := begun(t)
			wantPart(t, p, "the first one", p.Promised(a, p.Ballot(), nothing()), false)
			if p.Second() {
				t.Error("one is enough")
			}
			wantPart(t, p, "another one", p.Promised(b, p.Ballot(), nothing()), a != b)
			if a == b {
				wantPart(t, p, "once more", p.Promised(b, p.Ballot(), nothing()), false)
				if p.Second() {
					t.Errorf("%d alone is enough", a)
				}
				continue
			}
			wantSecond(t, p, "by two", next())
			for c := range api.Arbiters {
				wantPart(t, p, "it began", p.Promised(c, p.Ballot(), nothing()), false)
			}
			wantSecond(t, p, "by two, and others later", next())
			if p.Known() != first() {
				t.Errorf("known: %+v", p.Known())
			}
		}
	}
}

func TestTwoThatTookItChooseIt(t *testing.T) {
	for a := range api.Arbiters {
		for b := range api.Arbiters {
			p := inSecond(t, 2, 0)
			wantPart(t, p, "the first one", p.Took(a, p.Ballot(), taken(next(), p.Ballot())), false)
			wantPart(t, p, "another one", p.Took(b, p.Ballot(), taken(next(), p.Ballot())), a != b)
			if a == b {
				wantPart(t, p, "once more", p.Took(b, p.Ballot(), taken(next(), p.Ballot())), false)
				continue
			}
			for c := range api.Arbiters {
				wantPart(t, p, "it is chosen already", p.Took(c, p.Ballot(), taken(next(), p.Ballot())), false)
			}
		}
	}
}

// What is let be does not count, and does not keep the same arbiter's yes from counting.
func TestWhatIsLetBe(t *testing.T) {
	const ballot = 1<<32 + 11
	refused, behind, ahead, wrapped := nothing(), nothing(), nothing(), nothing()
	refused.OK, behind.V, ahead.V, wrapped.V = false, 7, 9, 0
	for _, c := range []struct {
		name   string
		from   int
		ballot uint64
		x      api.Promise
	}{
		{"no ballot", 1, 0, nothing()},
		{"a lesser ballot", 1, ballot - 1, nothing()},
		{"a greater ballot", 1, ballot + 1, nothing()},
		{"of the round before", 1, ballot - 1<<32, nothing()},
		{"of the round behind", 1, ballot + 1<<32, nothing()},
		{"of another sign", 1, ballot | 1<<63, nothing()},
		{"not OK", 1, ballot, refused},
		{"the view that is known", 1, ballot, behind},
		{"the view behind", 1, ballot, ahead},
		{"no view", 1, ballot, wrapped},
		{"nothing", 1, ballot, api.Promise{}},
		{"nobody", -1, ballot, nothing()},
		{"nobody, either", 3, ballot, nothing()},
		{"a client", api.FirstClient, ballot, nothing()},
		{"the least", math.MinInt, ballot, nothing()},
		{"the greatest", math.MaxInt, ballot, nothing()},
		{"twice", 0, ballot, nothing()},
	} {
		x := c.x
		x.Ballot, x.Value = 1<<32+10, other(9) // what it took does not matter, either
		p := begun(t)
		p.Promised(0, ballot, nothing())
		wantPart(t, p, c.name, p.Promised(c.from, c.ballot, x), false)
		if p.Second() || p.Ballot() != ballot {
			t.Errorf("%s: second %v, ballot %x", c.name, p.Second(), p.Ballot())
		}
		wantPart(t, p, c.name+": a yes", p.Promised(1, ballot, nothing()), true)
		wantSecond(t, p, c.name, next())

		p.Took(0, ballot, nothing())
		wantPart(t, p, c.name+": took", p.Took(c.from, c.ballot, x), false)
		wantSecond(t, p, c.name+": took", next())
		wantPart(t, p, c.name+": a yes that it took", p.Took(1, ballot, nothing()), true)
	}
}

func TestNobodyTakesInTheFirstPart(t *testing.T) {
	p := begun(t)
	for from := range api.Arbiters {
		wantPart(t, p, "took in the first part", p.Took(from, p.Ballot(), nothing()), false)
	}
	p.Promised(1, p.Ballot(), nothing())
	for from := range api.Arbiters {
		wantPart(t, p, "took behind one promise", p.Took(from, p.Ballot(), nothing()), false)
	}
	p.Promised(2, p.Ballot(), nothing())
	wantPart(t, p, "took in the second part", p.Took(0, p.Ballot(), nothing()), false)
	wantPart(t, p, "took in the second part, too", p.Took(1, p.Ballot(), nothing()), true)
}

func TestWhatIsToBeTaken(t *testing.T) {
	const low, high = 1<<32 + 2, 1<<32 + 10
	empty := taken(other(9), 0) // 0: nothing was taken
	for _, c := range []struct {
		name string
		a, b api.Promise
		want api.View
	}{
		{"nothing was taken", nothing(), nothing(), next()},
		{"by the first one", taken(other(3), low), nothing(), other(3)},
		{"by the other one", nothing(), taken(other(3), low), other(3)},
		{"rising", taken(other(3), low), taken(other(4), high), other(4)},
		{"falling", taken(other(3), high), taken(other(4), low), other(3)},
		{"of one ballot", taken(other(3), high), taken(other(4), high), other(3)},
		{"one and the same", taken(other(3), high), taken(other(3), high), other(3)},
		{"in the least ballot", taken(other(3), 1), nothing(), other(3)},
		{"in the least ballot, by the other one", nothing(), taken(other(3), 1), other(3)},
		{"in the least ballot and the next one", taken(other(3), 1), taken(other(4), 2), other(4)},
		{"in the least ballot, both", taken(other(3), 1), taken(other(4), 1), other(3)},
		{"a view without a ballot", empty, empty, next()},
		{"a view without a ballot, and one with", empty, taken(other(4), 1), other(4)},
		{"one with a ballot, and a view without", taken(other(4), 1), empty, other(4)},
		{"its own", taken(next(), low), nothing(), next()},
		{"its own by a greater one", taken(other(3), low), taken(next(), high), next()},
		{"its own by a lesser one", taken(next(), low), taken(other(3), high), other(3)},
	} {
		for from := range api.Arbiters { // who says it does not matter, but which ballot is greater, and who says it first
			p := begun(t)
			p.Promised(from, p.Ballot(), c.a)
			p.Promised(from, p.Ballot(), taken(other(77), high+1)) // let be, since it comes twice
			p.Promised((from+1)%3, p.Ballot(), c.b)
			wantSecond(t, p, c.name, c.want)
			wantPart(t, p, c.name+": too late", p.Promised((from+2)%3, p.Ballot(), taken(other(88), high+1)), false)
			wantSecond(t, p, c.name+", and one too late", c.want)
			p.Took(from, p.Ballot(), taken(c.want, p.Ballot()))
			wantPart(t, p, c.name+": taken", p.Took((from+2)%3, p.Ballot(), taken(c.want, p.Ballot())), true)
			wantSecond(t, p, c.name+", that is chosen", c.want)
		}
	}
}

func TestABallotBeginsAnew(t *testing.T) {
	const a, b, c = 1<<32 + 11, 2<<32 + 11, 5<<32 + 11
	p := begun(t)
	p.Promised(0, a, taken(other(3), 9))
	wantBegin(t, p, 0, b)
	wantPart(t, p, "of the ballot before", p.Promised(1, a, taken(other(4), 10)), false)
	wantPart(t, p, "promises begin anew", p.Promised(1, b, nothing()), false)
	wantPart(t, p, "the same arbiter's", p.Promised(0, b, nothing()), true)
	wantSecond(t, p, "what was told of the ballot before is gone", next())
	p.Took(0, b, nothing())
	wantBegin(t, p, 4<<32, c)
	if p.Second() || p.Known() != first() {
		t.Errorf("second %v, known %+v", p.Second(), p.Known())
	}
	wantPart(t, p, "taken in the ballot before", p.Took(1, b, nothing()), false)
	wantPart(t, p, "ahead of the second part", p.Took(1, c, nothing()), false)
	p.Promised(2, c, nothing())
	wantPart(t, p, "promised anew", p.Promised(1, c, taken(other(6), 1)), true)
	wantSecond(t, p, "a lesser ballot than that of which was told before", other(6))
	wantPart(t, p, "taken in the ballot before", p.Took(1, b, nothing()), false)
	wantPart(t, p, "one takes it", p.Took(1, c, nothing()), false)
	wantPart(t, p, "another one takes it", p.Took(0, c, nothing()), true)
}

func TestANilOneHasNothing(t *testing.T) {
	for name, p := range map[string]*Proposer{"nil": nil, "not made": {}} {
		for _, above := range []uint64{0, 1 << 32, math.MaxUint64} {
			wantBegin(t, p, above, 0)
		}
		for _, ballot := range []uint64{0, 1, 1<<32 + 2} {
			for from := range api.Arbiters {
				for _, x := range []api.Promise{{}, {OK: true}, nothing(), {OK: true, V: 1}} {
					wantPart(t, p, name+": promised", p.Promised(from, ballot, x), false)
					wantPart(t, p, name+": took", p.Took(from, ballot, x), false)
				}
			}
		}
		if p.Ballot() != 0 || p.Second() || p.Value() != (api.View{}) || p.Known() != (api.View{}) {
			t.Errorf("%s: %x, %v, %+v, %+v", name, p.Ballot(), p.Second(), p.Value(), p.Known())
		}
	}
}

func TestProposersAreApart(t *testing.T) {
	p, q := begun(t), begun(t)
	p.Promised(0, p.Ballot(), taken(other(3), 9))
	p.Promised(1, p.Ballot(), nothing())
	if q.Second() {
		t.Error("the second part of another one")
	}
	q.Promised(1, q.Ballot(), nothing())
	q.Promised(0, q.Ballot(), nothing())
	wantSecond(t, q, "another one", next())
	p.Took(0, p.Ballot(), nothing())
	wantPart(t, q, "taken of another one", q.Took(1, q.Ballot(), nothing()), false)
}

package cell

import (
	"math"
	"testing"

	"hawthorn/api"
)

// both is the view of a number in which both serve.
func both(number uint64) api.View {
	return api.View{V: number, Primary: 0, PLife: 1, Backup: 1, BLife: 2, Epoch: 1}
}

// alone is the view of a number in which a node serves alone.
func alone(number uint64, node int) api.View {
	return api.View{V: number, Primary: node, PLife: 3, Backup: api.Nobody, Epoch: 1}
}

// made is a cell with a first view.
func made(t *testing.T, first api.View) *Cell {
	t.Helper()
	c, e := New(first)
	if e != api.OK || c == nil {
		t.Fatalf("New(%+v): %v, %d", first, c, e)
	}
	return c
}

// wantTold holds what a cell told against what it must tell.
func wantTold(t *testing.T, name string, got, want api.Promise) {
	t.Helper()
	if got != want {
		t.Errorf("%s: %+v, want %+v", name, got, want)
	}
}

// views is views, and whether each may be.
func views() map[api.View]int {
	const may, not = 1, 0
	const node, life = api.MostNode - 1, math.MaxUint64
	return map[api.View]int{
		both(1):             may,
		both(life):          may,
		alone(1, 0):         may,
		alone(1, node):      may,
		alone(life, node-1): may,
		{V: 1, Primary: 1, PLife: 1, Backup: 0, BLife: 1, Epoch: 1}:                may,
		{V: life, Primary: node, PLife: life, Backup: 0, BLife: life, Epoch: life}: may,
		{V: life, Primary: 0, PLife: life, Backup: node, BLife: life, Epoch: life}: may,
		{V: 5, Primary: 7, PLife: 9, Backup: 8, BLife: 9, Epoch: 11}:               may, // two nodes of one life

		{}:                    not,
		{Backup: api.Nobody}:  not,
		both(0):               not,
		alone(0, 0):           not,
		alone(1, -1):          not,
		alone(1, node+1):      not,
		alone(1, math.MaxInt): not,
		alone(1, math.MinInt): not,
		{V: 1, Primary: 0, PLife: 1, Backup: 1, BLife: 1, Epoch: 0}:                      not,
		{V: 1, Primary: 0, PLife: 0, Backup: 1, BLife: 1, Epoch: 1}:                      not,
		{V: 1, Primary: 0, PLife: 1, Backup: 1, BLife: 0, Epoch: 1}:                      not,
		{V: 1, Primary: 0, PLife: 0, Backup: api.Nobody, BLife: 0, Epoch: 1}:             not,
		{V: 1, Primary: 0, PLife: 1, Backup: api.Nobody, BLife: 1, Epoch: 1}:             not, // nobody has no life
		{V: 1, Primary: 0, PLife: 1, Backup: 0, BLife: 1, Epoch: 1}:                      not, // one can't be its own backup,
		{V: 1, Primary: 0, PLife: 1, Backup: 0, BLife: 2, Epoch: 1}:                      not, // whatever its life
		{V: 1, Primary: node, PLife: 1, Backup: node, BLife: 2, Epoch: 1}:                not,
		{V: 1, Primary: 0, PLife: 1, Backup: 0, BLife: 0, Epoch: 1}:                      not,
		{V: 1, Primary: 0, PLife: 1, Backup: node + 1, BLife: 1, Epoch: 1}:               not,
		{V: 1, Primary: 0, PLife: 1, Backup: -2, BLife: 1, Epoch: 1}:                     not,
		{V: 1, Primary: 0, PLife: 1, Backup: -2, BLife: 0, Epoch: 1}:                     not,
		{V: 1, Primary: 0, PLife: 1, Backup: math.MaxInt, BLife: 1, Epoch: 1}:            not,
		{V: 1, Primary: 0, PLife: 1, Backup: math.MinInt, BLife: 0, Epoch: 1}:            not,
		{V: 1, Primary: api.Nobody, PLife: 0, Backup: api.Nobody, BLife: 0, Epoch: 1}:    not,
		{V: 1, Primary: api.Nobody, PLife: 1, Backup: 0, BLife: 1, Epoch: 1}:             not,
		{V: 1, Primary: node + 1, PLife: 1, Backup: 0, BLife: 1, Epoch: 1}:               not,
		{V: 1, Primary: node + 1, PLife: 1, Backup: api.Nobody, BLife: 0, Epoch: 1 << 9}: not,
	}
}

func TestNumbersOfTheChapter(t *testing.T) {
	if api.Nobody != -1 {
		t.Error("nobody:", api.Nobody)
	}
}

func TestWhichViewsMayBe(t *testing.T) {
	for v, may := range views() {
		if Check(v) != (may == 1) {
			t.Errorf("%+v: %v", v, Check(v))
		}
	}
}

func TestNewTakesAViewThatMayBe(t *testing.T) {
	for v, may := range views() {
		c, e := New(v)
		if may == 0 {
			if c != nil || e != api.ErrInput {
				t.Errorf("%+v: %v, %d", v, c, e)
			}
			continue
		}
		if e != api.OK || c.Chosen() != v {
			t.Errorf("%+v: %+v, %d", v, c.Chosen(), e)
		}
		wantTold(t, "new", c.Prepare(api.View{}, 1), api.Promise{V: v.V + 1, Chosen: v})
	}
}

func TestLearnTakesWhatMayBeAndIsLater(t *testing.T) {
	for v, may := range views() {
		for _, first := range []api.View{alone(1, 5), alone(3, 5), alone(5, 5), alone(math.MaxUint64, 5)} {
			c := made(t, first)
			learns := may == 1 && v.V > first.V
			if c.Learn(v) != learns {
				t.Errorf("%+v, when %+v is chosen: %v", v, first, !learns)
			}
			want := first
			if learns {
				want = v
			}
			if c.Chosen() != want {
				t.Errorf("%+v, when %+v is chosen: %+v", v, first, c.Chosen())
			}
			if learns && c.Learn(v) {
				t.Errorf("%+v is learned twice", v)
			}
		}
	}
}

func TestLearnEmptiesAllElse(t *testing.T) {
	for _, v := range []api.View{both(3), alone(3, 1), alone(4, 0), both(9), both(math.MaxUint64)} {
		c := made(t, both(2))
		c.Accept(alone(3, 1), 5) // with the very view that is chosen, too
		c.Prepare(both(2), 8)
		if !c.Learn(v) {
			t.Fatalf("%+v is not learned", v)
		}
		wantTold(t, "all else is empty", c.Prepare(both(2), 9), api.Promise{V: v.V + 1, Chosen: v})
		wantTold(t, "ballots begin anew", c.Prepare(v, 1), api.Promise{OK: true, V: v.V + 1, Most: 1, Chosen: v})
	}
}

func TestWhatIsNotLearnedChangesNothing(t *testing.T) {
	c := made(t, both(2))
	c.Accept(alone(3, 1), 5)
	c.Prepare(both(2), 8)
	was := c.Export()
	noLife := alone(3, 1)
	noLife.PLife = 0
	for _, v := range []api.View{{}, {Backup: api.Nobody}, both(0), both(1), both(2), alone(1, 0), alone(2, 0), alone(3, -1), noLife} {
		if c.Learn(v) || c.Export() != was {
			t.Errorf("%+v is learned, when %+v is chosen", v, both(2))
		}
	}
}

// Example 1 of the chapter.
func TestPrepareFiveTwice(t *testing.T) {
	c, first := made(t, both(1)), both(1)
	wantTold(t, "the first one", c.Prepare(first, 5), api.Promise{OK: true, V: 2, Most: 5, Chosen: first})
	wantTold(t, "the second one", c.Prepare(first, 5), api.Promise{V: 2, Most: 5, Chosen: first})
}

func TestPrepareTakesPartInGreaterBallots(t *testing.T) {
	first := both(7)
	c := made(t, first)
	for _, x := range []struct {
		ballot uint64
		ok     bool
		most   uint64
	}{
		{0, false, 0}, // 0 is none
		{1, true, 1},
		{0, false, 1},
		{1, false, 1},
		{2, true, 2},
		{1 << 40, true, 1 << 40},
		{1<<40 - 1, false, 1 << 40},
		{1 << 40, false, 1 << 40},
		{1<<40 + 1, true, 1<<40 + 1},
		{math.MaxUint64 - 1, true, math.MaxUint64 - 1},
		{math.MaxUint64, true, math.MaxUint64},
		{math.MaxUint64, false, math.MaxUint64},
		{1, false, math.MaxUint64},
	} {
		wantTold(t, "prepare", c.Prepare(first, x.ballot), api.Promise{OK: x.ok, V: 8, Most: x.most, Chosen: first})
	}
}

func TestPrepareBehindWhatIsChosenAlone(t *testing.T) {
	first := both(7)
	for _, other := range []api.View{
		{},
		{Backup: api.Nobody},
		both(6),
		alone(6, 0),
		alone(7, 0),
		{V: 7, Primary: 2, PLife: 1, Backup: 1, BLife: 2, Epoch: 1}, // each part but one is the same
		{V: 7, Primary: 0, PLife: 2, Backup: 1, BLife: 2, Epoch: 1},
		{V: 7, Primary: 0, PLife: 1, Backup: 2, BLife: 2, Epoch: 1},
		{V: 7, Primary: 0, PLife: 1, Backup: 1, BLife: 3, Epoch: 1},
		{V: 7, Primary: 0, PLife: 1, Backup: 1, BLife: 2, Epoch: 2},
		{V: 8, Primary: 0, PLife: 1, Backup: 1, BLife: 2, Epoch: 0}, // later, but may not be
		{V: 8, Primary: -1, PLife: 1, Backup: 1, BLife: 2, Epoch: 1},
	} {
		c := made(t, first)
		wantTold(t, "another view", c.Prepare(other, 5), api.Promise{V: 8, Chosen: first})
		wantTold(t, "the chosen one", c.Prepare(first, 3), api.Promise{OK: true, V: 8, Most: 3, Chosen: first})
	}
}

func TestPrepareLearns(t *testing.T) {
	c := made(t, both(7))
	c.Prepare(both(7), 9)
	c.Accept(alone(8, 1), 9)
	later := alone(8, 0)
	wantTold(t, "a ballot below the old greatest one", c.Prepare(later, 4), api.Promise{OK: true, V: 9, Most: 4, Chosen: later})
	wantTold(t, "what was known before", c.Prepare(both(7), 20), api.Promise{V: 9, Most: 4, Chosen: later})
	muchLater := both(100)
	wantTold(t, "learned, without a ballot", c.Prepare(muchLater, 0), api.Promise{V: 101, Chosen: muchLater})
	if c.Chosen() != muchLater {
		t.Errorf("chosen: %+v", c.Chosen())
	}
}

func TestAcceptTakesBallotsThatAreNotBelow(t *testing.T) {
	first, v, other := both(7), alone(8, 1), alone(8, 0)
	c := made(t, first)
	wantTold(t, "ballot 0", c.Accept(v, 0), api.Promise{V: 8, Chosen: first})
	wantTold(t, "without a promise", c.Accept(v, 3), api.Promise{OK: true, V: 8, Most: 3, Ballot: 3, Value: v, Chosen: first})
	wantTold(t, "ballot 0 again", c.Accept(other, 0), api.Promise{V: 8, Most: 3, Ballot: 3, Value: v, Chosen: first})
	wantTold(t, "below", c.Accept(other, 2), api.Promise{V: 8, Most: 3, Ballot: 3, Value: v, Chosen: first})
	wantTold(t, "again", c.Accept(v, 3), api.Promise{OK: true, V: 8, Most: 3, Ballot: 3, Value: v, Chosen: first})
	wantTold(t, "a promise", c.Prepare(first, 6), api.Promise{OK: true, V: 8, Most: 6, Ballot: 3, Value: v, Chosen: first})
	wantTold(t, "below the promise", c.Accept(v, 5), api.Promise{V: 8, Most: 6, Ballot: 3, Value: v, Chosen: first})
	wantTold(t, "the ballot that was promised", c.Accept(other, 6), api.Promise{OK: true, V: 8, Most: 6, Ballot: 6, Value: other, Chosen: first})
	wantTold(t, "no promise behind it", c.Prepare(first, 6), api.Promise{V: 8, Most: 6, Ballot: 6, Value: other, Chosen: first})
	wantTold(t, "above", c.Accept(v, math.MaxUint64), api.Promise{OK: true, V: 8, Most: math.MaxUint64, Ballot: math.MaxUint64, Value: v, Chosen: first})
	wantTold(t, "a promise that is refused", c.Prepare(first, 7), api.Promise{V: 8, Most: math.MaxUint64, Ballot: math.MaxUint64, Value: v, Chosen: first})
	if c.Chosen() != first {
		t.Errorf("what was taken is not chosen yet: %+v", c.Chosen())
	}
}

func TestAcceptTakesTheNextViewAlone(t *testing.T) {
	first := alone(4, 5)
	for v, may := range views() {
		c := made(t, first)
		want := api.Promise{V: 5, Chosen: first}
		if may == 1 && v.V == 5 {
			want = api.Promise{OK: true, V: 5, Most: 2, Ballot: 2, Value: v, Chosen: first}
		}
		wantTold(t, "accept", c.Accept(v, 2), want)
	}
	for number := range uint64(12) {
		c := made(t, first)
		c.Prepare(first, 2)
		want := api.Promise{V: 5, Most: 2, Chosen: first}
		if number == 5 {
			want = api.Promise{OK: true, V: 5, Most: 3, Ballot: 3, Value: both(5), Chosen: first}
		}
		wantTold(t, "of a number", c.Accept(both(number), 3), want)
		if c.Chosen() != first {
			t.Errorf("accept learns %+v", c.Chosen())
		}
	}
}

func TestAcceptOfWhatMayNotBeChangesNothing(t *testing.T) {
	for _, v := range []api.View{
		{},
		{V: 8, Primary: 0, PLife: 0, Backup: 1, BLife: 1, Epoch: 1},
		{V: 8, Primary: 0, PLife: 1, Backup: 0, BLife: 1, Epoch: 1},
		{V: 8, Primary: 0, PLife: 1, Backup: 1, BLife: 1, Epoch: 0},
		{V: 8, Primary: 0, PLife: 1, Backup: api.Nobody, BLife: 1, Epoch: 1},
		{V: 8, Primary: api.MostNode, PLife: 1, Backup: api.Nobody, Epoch: 1},
	} {
		c := made(t, both(7))
		c.Accept(alone(8, 1), 3)
		wantTold(t, "accept", c.Accept(v, 4), api.Promise{V: 8, Most: 3, Ballot: 3, Value: alone(8, 1), Chosen: both(7)})
	}
}

func TestBehindTheLastNumberThereIsNone(t *testing.T) {
	last := both(math.MaxUint64)
	c := made(t, last)
	for _, v := range []api.View{{}, both(0), both(1), last} {
		wantTold(t, "accept", c.Accept(v, 1), api.Promise{Chosen: last})
		if c.Learn(v) {
			t.Errorf("%+v is learned", v)
		}
	}
	wantTold(t, "prepare", c.Prepare(last, 2), api.Promise{OK: true, V: 0, Most: 2, Chosen: last})
}

func TestOneThatIsNotThereTellsNothing(t *testing.T) {
	for name, c := range map[string]*Cell{"nil": nil, "of zero": {}} {
		for range 2 { // what it is told does not make it one
			if c.Chosen() != (api.View{}) {
				t.Errorf("%s: chosen: %+v", name, c.Chosen())
			}
			if c.Learn(both(1)) {
				t.Errorf("%s: it learns", name)
			}
			wantTold(t, name+": prepare", c.Prepare(both(1), 1), api.Promise{})
			wantTold(t, name+": prepare, of no view", c.Prepare(api.View{}, 1), api.Promise{})
			wantTold(t, name+": accept", c.Accept(both(1), 1), api.Promise{})
			if c.Export() != "" {
				t.Errorf("%s: export: %q", name, c.Export())
			}
		}
	}
}

func TestCellsAreApart(t *testing.T) {
	a, b := made(t, both(1)), made(t, both(1))
	a.Accept(alone(2, 1), 4)
	wantTold(t, "another one", b.Prepare(both(1), 1), api.Promise{OK: true, V: 2, Most: 1, Chosen: both(1)})
}

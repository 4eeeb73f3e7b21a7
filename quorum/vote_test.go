package quorum

import (
	"testing"

	"hawthorn/api"
	"hawthorn/cell"
)

const nodes = 2

// chance goes by a number that looks like chance.
type chance struct{ x uint64 }

func (c *chance) of(n uint64) uint64 {
	c.x = c.x*6364136223846793005 + 1442695040888963407
	return c.x >> 33 % n
}

// letter is what a node asks an arbiter, or what that one answers.
type letter struct {
	node, arbiter int
	second        bool // of a ballot's second part
	answer        bool
	ballot        uint64
	known, value  api.View
	told          api.Promise
}

// node wants to serve, by a proposer; when it fails, all but its life is lost.
type node struct {
	me    int
	life  uint64
	known api.View
	above uint64 // the greatest ballot of which it was told
	p     *Proposer
}

// vote is what an arbiter takes.
type vote struct {
	view   api.View
	ballot uint64
}

// election is nodes and arbiters that write to one another, and what came of it.
type election struct {
	t       *testing.T
	chance  *chance
	cells   [api.Arbiters]*cell.Cell
	nodes   [nodes]*node
	letters []letter
	took    map[vote]map[int]bool // by which arbiters
	owners  map[uint64]owner      // of ballots
	chosen  map[uint64]api.View   // by their numbers
	told    int                   // how often a node was told that a view is chosen
	handed  int                   // how often a node asked for another one's view instead of its own
}

// owner is who has a ballot, in which life.
type owner struct {
	me   int
	life uint64
	v    uint64
}

func newElection(t *testing.T, seed uint64) *election {
	begin := api.View{V: 1, Primary: 0, PLife: 1, Backup: api.Nobody, Epoch: 1}
	x := &election{
		t:      t,
		chance: &chance{seed},
		took:   map[vote]map[int]bool{},
		owners: map[uint64]owner{},
		chosen: map[uint64]api.View{1: begin},
	}
	for n := range x.cells {
		c, e := cell.New(begin)
		if e != api.OK {
			t.Fatal(e)
		}
		x.cells[n] = c
	}
	for n := range x.nodes {
		x.nodes[n] = &node{me: n, life: 1, known: begin}
	}
	return x
}

// fail lets a node fail, and stand up again: it knows nothing any more but its life.
func (x *election) fail(n *node) {
	*n = node{me: n.me, life: n.life + 1, known: x.chosen[1]}
}

// begin lets a node begin a ballot, for a view of its own, if it wanted none.
func (x *election) begin(n *node) {
	if n.p == nil {
		want := api.View{V: n.known.V + 1, Primary: n.me, PLife: n.life, Backup: api.Nobody, Epoch: 1 + x.chance.of(2)}
		if x.chance.of(2) == 0 {
			want.Backup, want.BLife = 1-n.me, x.nodes[1-n.me].life
		}
		p, e := New(n.known, want, n.me, n.life)
		if e != api.OK {
			x.t.Fatalf("%+v behind %+v: %d", want, n.known, e)
		}
		n.p = p
	}
	if !n.p.Begin(n.above) || n.p.Second() || n.p.Ballot() <= n.above {
		x.t.Fatalf("above %x begins %x", n.above, n.p.Ballot())
	}
	n.above = n.p.Ballot()
	x.own(n)
	x.askAll(n)
}

// own holds that of each number no two nodes, and no two lives, have one ballot.
func (x *election) own(n *node) {
	is := owner{n.me, n.life, n.known.V}
	if was, ok := x.owners[n.p.Ballot()]; ok && (was.me != is.me || was.life != is.life) {
		x.t.Fatalf("%x is the ballot of %+v and of %+v", n.p.Ballot(), was, is)
	}
	x.owners[n.p.Ballot()] = is
}

// askAll asks all arbiters, by the part that is under way.
func (x *election) askAll(n *node) {
	for a := range api.Arbiters {
		x.letters = append(x.letters, letter{
			node:    n.me,
			arbiter: a,
			second:  n.p.Second(),
			ballot:  n.p.Ballot(),
			known:   n.p.Known(),
			value:   n.p.Value(),
		})
	}
}

// deliver takes any letter, which may be lost, or come once more.
func (x *election) deliver() {
	if len(x.letters) == 0 {
		return
	}
	at := x.chance.of(uint64(len(x.letters)))
	l := x.letters[at]
	how := x.chance.of(10)
	if how > 0 {
		last := len(x.letters) - 1
		x.letters[at] = x.letters[last]
		x.letters = x.letters[:last]
	}
	if how == 1 {
		return
	}
	if l.answer {
		x.hear(x.nodes[l.node], l)
		return
	}
	l.told, l.answer = x.ask(l), true
	x.letters = append(x.letters, l)
}

// ask asks an arbiter.
func (x *election) ask(l letter) api.Promise {
	c := x.cells[l.arbiter]
	was := c.Chosen()
	if !l.second {
		told := c.Prepare(l.known, l.ballot)
		x.check(was, c.Chosen())
		return told
	}
	c.Learn(l.known)
	told := c.Accept(l.value, l.ballot)
	x.check(was, c.Chosen())
	if told.OK {
		x.note(l)
	}
	return told
}

// note notes that an arbiter took a view: what two took in one ballot is chosen.
func (x *election) note(l letter) {
	v := vote{l.value, l.ballot}
	if x.took[v] == nil {
		x.took[v] = map[int]bool{}
	}
	x.took[v][l.arbiter] = true
	if len(x.took[v]) <= api.Arbiters/2 {
		return
	}
	if other, ok := x.chosen[l.value.V]; ok && other != l.value {
		x.t.Fatalf("%+v is chosen beside %+v", l.value, other)
	}
	x.chosen[l.value.V] = l.value
}

// check holds what an arbiter learned against what was chosen.
func (x *election) check(was, now api.View) {
	if now.V < was.V || now.V == was.V && now != was {
		x.t.Fatalf("behind %+v comes %+v", was, now)
	}
	if now != x.chosen[now.V] {
		x.t.Fatalf("%+v was learned, %+v was chosen", now, x.chosen[now.V])
	}
}

// hear lets a node hear what an arbiter answers.
func (x *election) hear(n *node, l letter) {
	if l.told.Chosen.V > n.known.V {
		n.known, n.above, n.p = l.told.Chosen, 0, nil
	}
	if l.told.V == n.known.V+1 {
		n.above = max(n.above, l.told.Most)
	}
	if !l.second {
		if n.p.Promised(l.arbiter, l.ballot, l.told) {
			if n.p.Value().Primary != n.me || n.p.Value().PLife != n.life {
				x.handed++
			}
			x.askAll(n)
		}
		return
	}
	if n.p.Took(l.arbiter, l.ballot, l.told) {
		x.told++
		x.learn(n)
	}
}

// learn lets a node go on behind the view that it was told is chosen.
func (x *election) learn(n *node) {
	v := n.p.Value()
	if v != x.chosen[v.V] || v.V != n.known.V+1 {
		x.t.Fatalf("told as chosen: %+v, chosen is %+v, known %+v", v, x.chosen[v.V], n.known)
	}
	n.known, n.above, n.p = v, 0, nil
}

// T1, as far as this layer goes: whatever is lost, doubled or reordered, and whoever fails, of each number one view alone is chosen, and nobody is told of another one.
func TestOneViewOfEachNumber(t *testing.T) {
	views, told, handed := 0, 0, 0
	for seed := range uint64(60) {
		x := newElection(t, seed)
		for range 2500 {
			n := x.nodes[x.chance.of(nodes)]
			switch k := x.chance.of(240); {
			case k == 0:
				x.fail(n)
			case k < 20:
				x.begin(n)
			default:
				x.deliver()
			}
		}
		views += len(x.chosen)
		told += x.told
		handed += x.handed
	}
	if views < 1000 || told < 1000 || handed < 300 {
		t.Errorf("too little came of it: %d views, %d told, %d handed over", views, told, handed)
	}
}

// A view of which one arbiter tells that it took it may be chosen already: so nobody who began later has another one chosen.
func TestWhatMayBeChosenIsTaken(t *testing.T) {
	x := newElection(t, 0)
	a, b := x.nodes[0], x.nodes[1]
	x.begin(a)
	x.promise(a, 0, 1)
	own := a.p.Value()
	x.begin(b)
	x.promise(b, 0, 2) // 0 takes part, since b's ballot is greater by its end
	if !b.p.Second() || b.p.Value() == own {
		t.Fatalf("second %v, to be taken: %+v", b.p.Second(), b.p.Value())
	}
	if x.cells[0].Accept(own, a.p.Ballot()).OK || !x.cells[1].Accept(own, a.p.Ballot()).OK {
		t.Fatal("0 knows a greater ballot, 1 does not")
	}
	x.begin(b)
	x.promise(b, 2, 1)
	wantSecond(t, b.p, "what 1 took", own)
}

// promise lets arbiters promise a node's ballot.
func (x *election) promise(n *node, arbiters ...int) {
	for _, a := range arbiters {
		n.p.Promised(a, n.p.Ballot(), x.cells[a].Prepare(n.known, n.p.Ballot()))
	}
}

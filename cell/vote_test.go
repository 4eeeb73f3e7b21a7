package cell

import (
	"testing"

	"hawthorn/api"
)

const (
	cells = 3
	nodes = 2
)

// chance goes by a number that looks like chance.
type chance struct{ x uint64 }

func (c *chance) of(n uint64) uint64 {
	c.x = c.x*6364136223846793005 + 1442695040888963407
	return c.x >> 33 % n
}

// letter is what a node asks a cell, or what the cell answers.
type letter struct {
	node, cell int
	second     bool // of a ballot's second part
	answer     bool
	ballot     uint64
	view       api.View // that is known, or to be taken
	told       api.Promise
}

// node wants to serve, and asks the cells for it in ballots.
type node struct {
	me          int
	known, want api.View
	round       uint64
	ballot      uint64
	second      bool
	told        map[int]api.Promise
}

// vote is what a cell takes.
type vote struct {
	view   api.View
	ballot uint64
}

// election is nodes and cells that write to one another, and what came of it.
type election struct {
	t       *testing.T
	chance  *chance
	cells   [cells]*Cell
	nodes   [nodes]*node
	letters []letter
	took    map[vote]map[int]bool // by which cells
	chosen  map[uint64]api.View   // by their numbers
	handed  int                   // how often a node asked for another one's view instead of its own
	refused int                   // letters
}

func newElection(t *testing.T, seed uint64) *election {
	x := &election{t: t, chance: &chance{seed}, took: map[vote]map[int]bool{}, chosen: map[uint64]api.View{1: both(1)}}
	for n := range x.cells {
		x.cells[n] = made(t, both(1))
	}
	for n := range x.nodes {
		x.nodes[n] = &node{me: n, known: both(1)}
	}
	return x
}

// begin lets a node begin a ballot.
func (x *election) begin(n *node) {
	n.want = alone(n.known.V+1, n.me)
	if x.chance.of(2) == 0 {
		n.want.Backup, n.want.BLife = 1-n.me, 1+x.chance.of(3)
	}
	n.round += 1 + x.chance.of(2)
	n.ballot = n.round<<32 | uint64(n.me)
	n.second, n.told = false, map[int]api.Promise{}
	x.askAll(n, n.known)
}

// askAll asks all cells the same.
func (x *election) askAll(n *node, v api.View) {
	for c := range cells {
		x.letters = append(x.letters, letter{node: n.me, cell: c, second: n.second, ballot: n.ballot, view: v})
	}
}

// deliver takes any letter, which may be lost, or come once more.
func (x *election) deliver() {
	if len(x.letters) == 0 {
		return
	}
	at := x.chance.of(uint64(len(x.letters)))
	l := x.letters[at]
	how := x.chance.of(10)
	if how > 0 {
		last := len(x.letters) - 1
		x.letters[at] = x.letters[last]
		x.letters = x.letters[:last]
	}
	if how == 1 {
		return
	}
	if l.answer {
		x.hear(x.nodes[l.node], l)
		return
	}
	l.told, l.answer = x.ask(l), true
	x.letters = append(x.letters, l)
}

// ask asks a cell, that may come back from its bytes first.
func (x *election) ask(l letter) api.Promise {
	c := x.cells[l.cell]
	if x.chance.of(4) == 0 {
		same, e := Import(c.Export())
		if e != api.OK || same.Export() != c.Export() {
			x.t.Fatalf("%x does not come back: %d", c.Export(), e)
		}
		c, x.cells[l.cell] = same, same
	}
	was := c.Chosen()
	told := c.Prepare
	if l.second {
		told = c.Accept
	}
	p := told(l.view, l.ballot)
	if !p.OK {
		x.refused++
	} else if l.second {
		x.note(l)
	}
	x.check(c, was, p)
	return p
}

// note notes that a cell took a view: what two took in one ballot is chosen.
func (x *election) note(l letter) {
	v := vote{l.view, l.ballot}
	if x.took[v] == nil {
		x.took[v] = map[int]bool{}
	}
	x.took[v][l.cell] = true
	if len(x.took[v]) <= cells/2 {
		return
	}
	if other, ok := x.chosen[l.view.V]; ok && other != l.view {
		x.t.Fatalf("%+v is chosen beside %+v", l.view, other)
	}
	x.chosen[l.view.V] = l.view
}

// check holds a cell against what was chosen.
func (x *election) check(c *Cell, was api.View, p api.Promise) {
	now := c.Chosen()
	if now.V < was.V || now.V == was.V && now != was {
		x.t.Fatalf("behind %+v comes %+v", was, now)
	}
	if now != x.chosen[now.V] {
		x.t.Fatalf("%+v was learned, %+v was chosen", now, x.chosen[now.V])
	}
	if p.Chosen != now || p.V != now.V+1 || p.Ballot > p.Most || (p.Ballot > 0) != (p.Value.V == p.V) {
		x.t.Fatalf("told: %+v, when %+v is chosen", p, now)
	}
}

// hear lets a node hear what a cell answers.
func (x *election) hear(n *node, l letter) {
	p := l.told
	n.round = max(n.round, p.Most>>32)
	if p.Chosen.V > n.known.V {
		n.known, n.ballot = p.Chosen, 0
	}
	if n.ballot == 0 || l.ballot != n.ballot || l.second != n.second || !p.OK || p.V != n.known.V+1 {
		return
	}
	n.told[l.cell] = p
	if len(n.told) <= cells/2 {
		return
	}
	if n.second { // it is chosen
		n.known, n.ballot = l.view, 0
		return
	}
	v, most := n.want, uint64(0)
	for c := range cells {
		if p := n.told[c]; p.Ballot > most {
			v, most = p.Value, p.Ballot
		}
	}
	if v != n.want {
		x.handed++
	}
	n.second, n.told = true, map[int]api.Promise{}
	x.askAll(n, v)
}

// T1, as far as this layer goes: whatever is lost, doubled or reordered, of each number one view alone is chosen, and cells go on from each to a later one.
func TestOneViewOfEachNumber(t *testing.T) {
	views, handed, refused := 0, 0, 0
	for seed := range uint64(60) {
		x := newElection(t, seed)
		for range 2000 {
			if n := x.nodes[x.chance.of(nodes)]; x.chance.of(12) == 0 {
				x.begin(n)
			} else {
				x.deliver()
			}
		}
		views += len(x.chosen)
		handed += x.handed
		refused += x.refused
	}
	if views < 1000 || handed < 300 || refused < 5000 {
		t.Errorf("too little came of it: %d views, %d handed over, %d letters refused", views, handed, refused)
	}
}

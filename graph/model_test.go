package graph_test

import (
	"math/rand/v2"
	"slices"
	"testing"

	"gossamer/amount"
	"gossamer/api"
	"gossamer/graph"
	"gossamer/tx"
)

// model is a graph as the chapter defines it: its transactions in the order of insertion. It is never changed, but replaced.
type model []entry

type entry struct {
	id  api.Hash
	tx  api.Tx
	fee int
}

// with is the graph with one more, without any question.
func (m model) with(a api.Tx, fee int) model {
	return append(slices.Clone(m), entry{tx.ID(a), clone(a), fee})
}

// place is where a transaction is, or -1.
func (m model) place(id api.Hash) int {
	return slices.IndexFunc(m, func(e entry) bool { return e.id == id })
}

// ids is the ids of those of the places that are picked.
func (m model) ids(pick func(i int) bool) []api.Hash {
	var list []api.Hash
	for i, e := range m {
		if pick(i) {
			list = append(list, e.id)
		}
	}
	return list
}

// spends tells whether a transaction spends a point.
func spends(a api.Tx, p api.Point) bool {
	return slices.ContainsFunc(a.Spends, func(s api.Spend) bool { return s.From == p })
}

// isParent tells whether the one at place i is a parent of the one at place j.
func (m model) isParent(i, j int) bool {
	for n := range m[i].tx.Coins {
		if spends(m[j].tx, api.Point{Tx: m[i].id, N: n}) {
			return true
		}
	}
	return false
}

// kin tells for all places i and j whether the one at i is an ancestor of the one at j.
func (m model) kin() [][]bool {
	is := make([][]bool, len(m))
	for i := range m {
		is[i] = make([]bool, len(m))
		for j := range m {
			is[i][j] = i == j || m.isParent(i, j)
		}
	}
	for k := range m {
		for i := range m {
			for j := range m {
				is[i][j] = is[i][j] || is[i][k] && is[k][j]
			}
		}
	}
	return is
}

func (m model) conflicts(a api.Tx) []api.Hash {
	return m.ids(func(i int) bool {
		return m[i].id != tx.ID(a) && slices.ContainsFunc(a.Spends, func(s api.Spend) bool { return spends(m[i].tx, s.From) })
	})
}

func (m model) put(a api.Tx, fee int) (model, error) {
	if err := tx.Check(a); err != nil {
		return m, err
	}
	if fee < 0 || fee > api.MaxMoney {
		return m, api.ErrValue
	}
	if m.place(tx.ID(a)) >= 0 {
		return m, api.ErrDup
	}
	if len(m.conflicts(a)) > 0 {
		return m, api.ErrSpent
	}
	return m.with(a, fee), nil
}

func (m model) remove(ids ...api.Hash) (model, []api.Tx) {
	var rest model
	var gone []api.Tx
	for _, e := range m {
		if slices.Contains(ids, e.id) {
			gone = append(gone, e.tx)
		} else {
			rest = append(rest, e)
		}
	}
	return rest, gone
}

func (m model) rate(ids ...api.Hash) (amount.Rate, error) {
	var r amount.Rate
	seen := map[api.Hash]int{}
	for _, id := range ids {
		i := m.place(id)
		if i < 0 {
			return amount.Rate{}, api.ErrNone
		}
		if seen[id]++; seen[id] == 1 {
			r.Fee, r.Weight = r.Fee+m[i].fee, r.Weight+tx.Weight(m[i].tx)
		}
	}
	if len(ids) == 0 {
		return amount.Rate{}, api.ErrNone
	}
	// The fees of a model are too few for their sum to wrap around.
	if r.Fee > api.MaxMoney {
		return amount.Rate{}, api.ErrValue
	}
	return r, nil
}

// graphIs holds all that a graph tells of its transactions against the model.
func graphIs(t *testing.T, name string, g *graph.Graph, m model) {
	t.Helper()
	listIs(t, name+": IDs", g.IDs(), m.ids(func(int) bool { return true }))
	if g.Len() != len(m) {
		t.Errorf("%s: Len is %d, want %d", name, g.Len(), len(m))
	}
	kin := m.kin()
	for i, e := range m {
		getIs(t, name, g, e.id, e.tx, true)
		rateIs(t, name, g, []api.Hash{e.id}, amount.Rate{Fee: e.fee, Weight: tx.Weight(e.tx)}, nil)
		for _, s := range e.tx.Spends {
			spenderIs(t, name, g, s.From, e.id, true)
		}
		for n, c := range e.tx.Coins {
			coinIs(t, name, g, api.Point{Tx: e.id, N: n}, c, true)
		}
		listIs(t, name+": Parents", g.Parents(e.id), m.ids(func(j int) bool { return m.isParent(j, i) }))
		listIs(t, name+": Children", g.Children(e.id), m.ids(func(j int) bool { return m.isParent(i, j) }))
		listIs(t, name+": Ancestors", g.Ancestors(e.id), m.ids(func(j int) bool { return kin[j][i] }))
		listIs(t, name+": Descendants", g.Descendants(e.id), m.ids(func(j int) bool { return kin[i][j] }))
	}
}

// absentIs holds that a graph tells nothing of a transaction that isn't in it.
func absentIs(t *testing.T, name string, g *graph.Graph, a api.Tx) {
	t.Helper()
	id := tx.ID(a)
	getIs(t, name, g, id, api.Tx{}, false)
	rateIs(t, name, g, []api.Hash{id}, amount.Rate{}, api.ErrNone)
	for n := range 8 {
		coinIs(t, name, g, api.Point{Tx: id, N: n}, api.Coin{}, false)
	}
	listIs(t, name+": Parents", g.Parents(id), nil)
	listIs(t, name+": Children", g.Children(id), nil)
	listIs(t, name+": Ancestors", g.Ancestors(id), nil)
	listIs(t, name+": Descendants", g.Descendants(id), nil)
	for _, s := range a.Spends {
		if spender, ok := g.Spender(s.From); ok && spender == id {
			t.Errorf("%s: the spender of %v is absent", name, s.From)
		}
	}
}

// both is a graph, and what it should be.
type both struct {
	graph *graph.Graph
	want  model
}

// world is graphs on which scattered calls are made with the same transactions.
type world struct {
	*rand.Rand
	graphs []both
	txs    []api.Tx
	seen   map[string]int
}

// one tells whether one of n chances came.
func (w *world) one(n int) bool {
	return w.IntN(n) == 0
}

// point is mostly a point of one of the latest transactions, which sometimes has no coin of that number.
func (w *world) point() api.Point {
	if len(w.txs) == 0 || w.one(6) {
		return spot(w.IntN(6))
	}
	return tx.Point(w.txs[len(w.txs)-1-w.IntN(min(len(w.txs), 5))], w.IntN(5))
}

// make makes one more transaction, which mostly spends coins of the others.
func (w *world) make() {
	var points []api.Point
	for range 1 + w.IntN(2) {
		if p := w.point(); !slices.Contains(points, p) || w.one(20) {
			points = append(points, p)
		}
	}
	a := making(2+w.IntN(4), points...)
	a.Firm = w.one(3)
	w.txs = append(w.txs, a)
	if w.one(6) {
		w.txs = append(w.txs, twin(a))
	}
}

// ids are ids of some of the transactions, some of them twice, and of others.
func (w *world) ids(m model) []api.Hash {
	var list []api.Hash
	for range w.IntN(5) {
		switch {
		case w.one(12):
			list = append(list, hash(9, byte(w.IntN(3))))
		case len(m) > 0 && !w.one(8):
			list = append(list, m[w.IntN(len(m))].id)
		default:
			list = append(list, tx.ID(w.txs[w.IntN(len(w.txs))]))
		}
	}
	return list
}

// count counts what a kind of call returned.
func (w *world) count(call string, err error) {
	if err != nil {
		call += " " + err.Error()
	}
	w.seen[call]++
}

// step makes one scattered call on one of the graphs, and holds it against the model.
func (w *world) step(t *testing.T) {
	t.Helper()
	b := &w.graphs[w.IntN(len(w.graphs))]
	switch w.IntN(12) {
	case 0:
		w.graphs[w.IntN(len(w.graphs))] = both{b.graph.Copy(), b.want}
	case 1, 2:
		ids := w.ids(b.want)
		rest, gone := b.want.remove(ids...)
		removeIs(t, "scattered ids", b.graph, ids, gone)
		b.want = rest
		w.count("remove", nil)
	case 3, 4:
		w.ask(t, b)
	default:
		a, fee := w.txs[w.IntN(len(w.txs))], w.IntN(1000)
		if w.one(8) {
			fee = []int{-1, 0, api.MaxMoney - 1, api.MaxMoney, api.MaxMoney + 1}[w.IntN(5)]
		}
		after, want := b.want.put(a, fee)
		w.count("put", want)
		if err := b.graph.Put(a, fee); err != want {
			t.Errorf("with %v and %d, Put is %v, want %v", a, fee, err, want)
		}
		b.want = after
	}
}

// ask makes the calls about several transactions.
func (w *world) ask(t *testing.T, b *both) {
	t.Helper()
	ids, m := w.ids(b.want), b.want
	rate, err := m.rate(ids...)
	w.count("rate", err)
	rateIs(t, "scattered ids", b.graph, ids, rate, err)
	kin := m.kin()
	isOne := func(i int) bool { return slices.Contains(ids, m[i].id) }
	listIs(t, "scattered ids: Ancestors", b.graph.Ancestors(ids...), m.ids(func(i int) bool {
		return slices.ContainsFunc(m.ids(isOne), func(id api.Hash) bool { return kin[i][m.place(id)] })
	}))
	listIs(t, "scattered ids: Descendants", b.graph.Descendants(ids...), m.ids(func(i int) bool {
		return slices.ContainsFunc(m.ids(isOne), func(id api.Hash) bool { return kin[m.place(id)][i] })
	}))
}

// P14.1, P14.2, P14.3: any calls in any order do what the definitions say, on graphs of which some are copies of others.
func TestScatteredCalls(t *testing.T) {
	w := world{Rand: rand.New(rand.NewPCG(14, 42)), seen: map[string]int{}}
	for range 3 {
		w.graphs = append(w.graphs, both{graph.New(), nil})
	}
	for i := range 3000 {
		if i%150 == 0 {
			w.txs = nil
			for range 30 {
				w.make()
			}
			w.graphs[w.IntN(3)] = both{graph.New(), nil}
		}
		w.step(t)
		for _, b := range w.graphs {
			graphIs(t, "scattered calls", b.graph, b.want)
			a := w.txs[w.IntN(len(w.txs))]
			listIs(t, "scattered calls: Conflicts", b.graph.Conflicts(a), b.want.conflicts(a))
			if b.want.place(tx.ID(a)) < 0 {
				absentIs(t, "scattered calls", b.graph, a)
			}
		}
		if t.Failed() {
			t.Fatalf("after %d calls", i+1)
		}
	}
	for _, call := range []string{"put", "put spent", "put value", "put dup", "remove", "rate", "rate none", "rate value"} {
		if w.seen[call] < 10 {
			t.Errorf("the calls with the result %q are %d, too few for a test", call, w.seen[call])
		}
	}
}

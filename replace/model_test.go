package replace_test

import (
	"math/rand/v2"
	"slices"
	"testing"

	"gossamer/admit"
	"gossamer/api"
	"gossamer/tx"
)

// entry is a transaction with its id, its fee and its weight.
type entry struct {
	api.Tx
	id          api.Hash
	fee, weight int
}

func entryOf(a api.Tx, fee int) entry {
	return entry{clone(a), tx.ID(a), fee, tx.Weight(a)}
}

// model is the transactions of a graph in the order of insertion.
type model []entry

// isParent tells whether a has a coin that b spends.
func isParent(a, b entry) bool {
	return slices.ContainsFunc(b.Spends, func(s api.Spend) bool { return s.From.Tx == a.id && s.From.N >= 0 && s.From.N < len(a.Coins) })
}

// isRival tells whether another transaction spends what a spends.
func isRival(a, b entry) bool {
	return a.id != b.id && slices.ContainsFunc(a.Spends, func(s api.Spend) bool { return spends(b.Tx, s.From) })
}

func spends(a api.Tx, p api.Point) bool {
	return slices.ContainsFunc(a.Spends, func(s api.Spend) bool { return s.From == p })
}

// some is those of the transactions that are picked.
func (m model) some(pick func(a entry) bool) model {
	var list model
	for _, a := range m {
		if pick(a) {
			list = append(list, a)
		}
	}
	return list
}

func (m model) has(id api.Hash) bool {
	return slices.ContainsFunc(m, func(a entry) bool { return a.id == id })
}

func (m model) conflicts(a entry) model {
	return m.some(func(b entry) bool { return isRival(a, b) })
}

// goes is the conflicts of a transaction and all that descends from them.
func (m model) goes(a entry) model {
	list := m.conflicts(a)
	for {
		more := m.some(func(b entry) bool {
			return list.has(b.id) || slices.ContainsFunc(list, func(c entry) bool { return isParent(c, b) })
		})
		if len(more) == len(list) {
			return list
		}
		list = more
	}
}

// failing is the first condition that a transaction with conflicts doesn't meet, or 0. What is summed here stays small.
func (m model) failing(a entry, step int) int {
	conflicts, goes := m.conflicts(a), m.goes(a)
	isNew := func(b entry) bool {
		return isParent(b, a) && !slices.ContainsFunc(conflicts, func(c entry) bool { return isParent(b, c) })
	}
	isDearer := func(c entry) bool { return c.fee*a.weight >= a.fee*c.weight }
	more := a.fee
	for _, b := range goes {
		more -= b.fee
	}
	switch {
	case slices.ContainsFunc(conflicts, func(c entry) bool { return c.Firm }):
		return 1
	case len(goes) > 20:
		return 2
	case len(m.some(isNew)) > 0:
		return 3
	// The needed fee is rounded up, so that nothing is lost by asking without a division.
	case step < 0 || step > 1<<20 || more <= 0 || more*1000 < step*a.weight || slices.ContainsFunc(conflicts, isDearer):
		return 4
	}
	return 0
}

func (m model) ids() []api.Hash {
	var list []api.Hash
	for _, a := range m {
		list = append(list, a.id)
	}
	return list
}

func (m model) txs() []api.Tx {
	var list []api.Tx
	for _, a := range m {
		list = append(list, a.Tx)
	}
	return list
}

// errorOf is the error of a condition.
func errorOf(condition int) error {
	return []error{nil, api.ErrSpent, api.ErrLimit, api.ErrSpent, api.ErrFee}[condition]
}

// world is a view that changes by scattered transactions, what its graph should have, and how often each result was seen.
type world struct {
	*rand.Rand
	view admit.View
	want model
	seen map[int]int
}

// Results beside those of the conditions.
const (
	seenOther = -1 // an error of Look
	seenFree  = -2 // no conflicts
)

// one tells whether one of n chances came.
func (w *world) one(n int) bool {
	return w.IntN(n) == 0
}

// point is mostly a point that a transaction of the graph spends, or a coin of one.
func (w *world) point() api.Point {
	n := len(w.want)
	if n == 0 || w.one(8) {
		return spot(w.IntN(10))
	}
	a := w.want[w.IntN(n)]
	if w.one(3) {
		a = w.want[n-1-w.IntN(min(n, 4))]
	}
	switch {
	case w.one(2):
		return a.Spends[w.IntN(len(a.Spends))].From
	case w.one(40):
		return api.Point{Tx: a.id, N: w.IntN(api.MaxCoins)}
	}
	return api.Point{Tx: a.id, N: w.IntN(len(a.Coins))}
}

// make makes a transaction that has mostly conflicts, and mostly the fee that it needs, or nearly.
func (w *world) make(t *testing.T, step int) api.Tx {
	t.Helper()
	var points []api.Point
	for range 1 + w.IntN(2)*w.IntN(3) {
		if p := w.point(); !slices.Contains(points, p) {
			points = append(points, p)
		}
	}
	values := slices.Repeat([]int{1000}, 1+w.IntN(3))
	a := making(points, values...)
	fee := step*tx.Weight(a)/1000 + w.IntN(4) - 1
	for _, b := range w.want.goes(entryOf(a, 0)) {
		fee += b.fee
	}
	if w.one(3) {
		fee = max(fee, outbidding(t, w.view, a)+w.IntN(3)-1)
	}
	if w.one(5) {
		fee += w.IntN(500)
	}
	values[0] = worth(w.view, points) - fee - 1000*(len(values)-1)
	a = making(points, values...)
	if w.one(20) {
		a = firm(a)
	}
	return a
}

// hold holds what all calls tell of a transaction against the model, and does it.
func (w *world) hold(t *testing.T, a api.Tx, l admit.Limits, step int) {
	t.Helper()
	x, err := w.view.Look(a, l)
	e, was := entryOf(a, x.Fee), stateOf(w.view)
	goes := w.want.goes(e)
	goesIs(t, "a scattered transaction", w.view.Graph, a, goes.ids()...)
	if err != nil {
		w.seen[seenOther]++
		tryIs(t, "a scattered transaction", w.view, a, l, step, x, nil, err)
		doIs(t, "a scattered transaction", w.view, a, l, step, nil, err, was)
		return
	}
	failing := 0
	if len(x.Conflicts) > 0 {
		failing = w.want.failing(e, step)
	}
	if failing != 0 {
		w.seen[failing]++
		checkIs(t, "a scattered transaction", w.view, a, x, step, nil, errorOf(failing))
		tryIs(t, "a scattered transaction", w.view, a, l, step, admit.Look{}, nil, errorOf(failing))
		doIs(t, "a scattered transaction", w.view, a, l, step, nil, errorOf(failing), was)
		return
	}
	checkIs(t, "a scattered transaction", w.view, a, x, step, goes.ids(), nil)
	tryIs(t, "a scattered transaction", w.view, a, l, step, x, goes.ids(), nil)
	doIs(t, "a scattered transaction", w.view, a, l, step, goes.txs(), nil, was.after(a, x.Fee, goes.ids()))
	standsAlone(t, "a scattered transaction", w.view.Graph, a)
	w.want = append(w.want.some(func(b entry) bool { return !goes.has(b.id) }), e)
	w.seen[0]++
	if len(goes) == 0 {
		w.seen[seenFree]++
	} else if now := stateOf(w.view).fees(); now <= was.fees() {
		t.Errorf("all fees are %d and were %d", now, was.fees())
	}
}

// change puts or removes a transaction of the graph, whatever the others are.
func (w *world) change(a api.Tx) {
	n := len(w.want)
	switch {
	case n > 0 && w.one(20):
		gone := w.want[w.IntN(n)].id
		w.view.Graph.Remove(gone)
		w.want = w.want.some(func(b entry) bool { return b.id != gone })
	case w.one(3):
		w.put(a)
	case w.one(8):
		for _, b := range row(w.point(), 15+w.IntN(10)) {
			w.put(b)
		}
	}
}

// put puts a transaction with some fee, if nothing speaks against that.
func (w *world) put(a api.Tx) {
	fee := w.IntN(200)
	if w.view.Graph.Put(a, fee) == nil {
		w.want = append(w.want, entryOf(a, fee))
	}
}

// P16.1, P16.2, P16.3: scattered transactions with scattered steps, on views whose graphs grow and shrink.
func TestScatteredTransactions(t *testing.T) {
	w := world{Rand: rand.New(rand.NewPCG(16, 48)), seen: map[int]int{}}
	for i := range 6000 {
		if i%200 == 0 {
			w.view, w.want = viewOf(t), nil
		}
		step := []int{0, 0, 1, 4, 20, 1000}[w.IntN(6)]
		a, l := w.make(t, step), free()
		if w.one(8) {
			l = admit.Usual()
		}
		if w.one(40) {
			step = []int{-1, 1<<20 + 1}[w.IntN(2)]
		}
		w.hold(t, a, l, step)
		w.change(a)
		if t.Failed() {
			t.Fatalf("after %d transactions", i+1)
		}
	}
	for result := seenFree; result <= 4; result++ {
		if w.seen[result] < 50 {
			t.Errorf("the transactions with the result %d are %d, too few for a test: %v", result, w.seen[result], w.seen)
		}
	}
	if w.seen[0]-w.seen[seenFree] < 500 {
		t.Errorf("of %d transactions that came in, %d replaced nothing", w.seen[0], w.seen[seenFree])
	}
}

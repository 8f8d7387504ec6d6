package admit_test

import (
	"math/rand/v2"
	"slices"
	"strings"
	"testing"

	"gossamer/admit"
	"gossamer/api"
	"gossamer/coins"
	"gossamer/graph"
	"gossamer/lock"
	"gossamer/tx"
)

// entry is a transaction and its id.
type entry struct {
	api.Tx
	id api.Hash
}

func entryOf(a api.Tx) entry {
	return entry{a, tx.ID(a)}
}

// model is a view as the chapter defines it: the coins of the coin set, and the transactions of the graph in the order of insertion.
type model struct {
	coins map[api.Point]api.Coin
	txs   []entry
}

// isParent tells whether a has a coin that b spends.
func isParent(a, b entry) bool {
	return slices.ContainsFunc(b.Spends, func(s api.Spend) bool { return s.From.Tx == a.id && s.From.N >= 0 && s.From.N < len(a.Coins) })
}

func spends(a api.Tx, p api.Point) bool {
	return slices.ContainsFunc(a.Spends, func(s api.Spend) bool { return s.From == p })
}

// some is those of the graph's transactions that are picked.
func (m model) some(pick func(a entry) bool) []entry {
	var list []entry
	for _, a := range m.txs {
		if pick(a) {
			list = append(list, a)
		}
	}
	return list
}

func (m model) conflicts(a entry) []entry {
	return m.some(func(b entry) bool {
		return slices.ContainsFunc(a.Spends, func(s api.Spend) bool { return spends(b.Tx, s.From) })
	})
}

// isIn tells whether a transaction is one of a list.
func isIn(list []entry, a entry) bool {
	return slices.ContainsFunc(list, func(b entry) bool { return a.id == b.id })
}

// grown is a list of the graph's transactions with all that near finds for one of them, for these, and so on.
func (m model) grown(list []entry, near func(found, a entry) bool) []entry {
	for {
		more := m.some(func(a entry) bool {
			return isIn(list, a) || slices.ContainsFunc(list, func(found entry) bool { return near(found, a) })
		})
		if len(more) == len(list) {
			return more
		}
		list = more
	}
}

func (m model) descendants(list []entry) []entry {
	return m.grown(list, isParent)
}

// ancestors is the ancestors of a new transaction, without itself.
func (m model) ancestors(a entry) []entry {
	parents := m.some(func(b entry) bool { return isParent(b, a) })
	return m.grown(parents, func(found, b entry) bool { return isParent(b, found) })
}

func (m model) coin(p api.Point) (api.Coin, bool) {
	for _, a := range m.txs {
		if a.id == p.Tx && p.N >= 0 && p.N < len(a.Coins) {
			return a.Coins[p.N], true
		}
	}
	c, ok := m.coins[p]
	return c, ok
}

func (m model) missing(a api.Tx) []api.Point {
	var list []api.Point
	for _, s := range a.Spends {
		if _, ok := m.coin(s.From); !ok && !slices.Contains(list, s.From) {
			list = append(list, s.From)
		}
	}
	return list
}

// balance is the values of the coins that are spent less those of its own. The model's amounts are too small for a sum to be none.
func (m model) balance(a api.Tx) int {
	sum := 0
	for _, s := range a.Spends {
		c, _ := m.coin(s.From)
		sum += c.Value
	}
	for _, c := range a.Coins {
		sum -= c.Value
	}
	return sum
}

// opens tells whether all spends unlock their coins.
func (m model) opens(a entry) bool {
	return !slices.ContainsFunc(a.Spends, func(s api.Spend) bool {
		c, _ := m.coin(s.From)
		return lock.Lock(s.Key) != c.Lock || lock.Seal(s.Key, a.id) != s.Seal
	})
}

// isThere tells whether a transaction or one of its coins is in the view.
func (m model) isThere(a entry) bool {
	for n := range a.Coins {
		if _, ok := m.coins[api.Point{Tx: a.id, N: n}]; ok {
			return true
		}
	}
	return isIn(m.txs, a)
}

// ofFee is the first of the checks 1, 3, 4 and 5 that fails, or 0.
func (m model) ofFee(a entry) int {
	switch {
	case tx.Check(a.Tx) != nil:
		return 1
	case len(m.missing(a.Tx)) > 0:
		return 3
	case !m.opens(a):
		return 4
	case m.balance(a.Tx) < 0:
		return 5
	}
	return 0
}

// ofAll is the first check that fails, or 0.
func (m model) ofAll(a entry, l admit.Limits) int {
	first := m.ofFee(a)
	if first != 1 && m.isThere(a) {
		return 2
	}
	gone, up := m.descendants(m.conflicts(a)), m.ancestors(a)
	weight, fee := tx.Weight(a.Tx), m.balance(a.Tx)
	switch {
	case first != 0:
		return first
	case weight > l.Weight:
		return 6
	// The needed fee is rounded up, so that nothing is lost by asking without a division.
	case l.Per < 0 || l.Per > 1<<20 || fee*1000 < l.Per*weight:
		return 7
	case !m.fits(up, gone, l):
		return 8
	case slices.ContainsFunc(up, func(b entry) bool { return isIn(gone, b) }):
		return 9
	}
	return 0
}

// fits tells whether the numbers of ancestors and descendants are within their limits, without those that would be gone.
func (m model) fits(up, gone []entry, l admit.Limits) bool {
	size := func(list []entry) int {
		n := 0
		for _, b := range list {
			if !isIn(gone, b) {
				n++
			}
		}
		return n
	}
	most := 1
	for _, b := range up {
		most = max(most, size(m.descendants([]entry{b}))+1)
	}
	return size(up)+1 <= l.Ancestors && most <= l.Descendants
}

// errorOf is the error of a check.
func errorOf(a api.Tx, check int) error {
	if check == 1 {
		return tx.Check(a)
	}
	return []error{nil, nil, api.ErrDup, api.ErrOrphan, api.ErrWitness, api.ErrValue, api.ErrLimit, api.ErrFee, api.ErrLimit, api.ErrSpent}[check]
}

// look is what Look returns, by the first check that fails.
func (m model) look(a api.Tx, check int) admit.Look {
	switch check {
	case 0:
		x := admit.Look{Fee: m.balance(a), Weight: tx.Weight(a)}
		for _, b := range m.conflicts(entryOf(a)) {
			x.Conflicts = append(x.Conflicts, b.id)
		}
		return x
	case 3:
		return admit.Look{Missing: m.missing(a)}
	}
	return admit.Look{}
}

// keys are the keys of the scattered coins.
func keys() []string {
	return []string{"k", "", "other", strings.Repeat("long", 8)}
}

// keyOf is the key that unlocks a coin.
func keyOf(c api.Coin) string {
	i := slices.IndexFunc(keys(), func(key string) bool { return lock.Lock(key) == c.Lock })
	return keys()[max(i, 0)]
}

// world is a view that grows by scattered transactions, and what it should be.
type world struct {
	*rand.Rand
	view admit.View
	want model
	seen map[int]int
}

// one tells whether one of n chances came.
func (w *world) one(n int) bool {
	return w.IntN(n) == 0
}

// coin is a scattered coin.
func (w *world) coin(value int) api.Coin {
	return coin(value, keys()[w.IntN(len(keys()))])
}

// begin begins with new coins, and an empty graph.
func (w *world) begin(t *testing.T) {
	t.Helper()
	w.view = admit.View{Coins: coins.New(), Graph: graph.New()}
	w.want = model{coins: map[api.Point]api.Coin{}}
	for i := range 10 {
		w.give(t, spot(i), w.coin(w.IntN(20000)))
	}
}

// give puts a coin into the coin set.
func (w *world) give(t *testing.T, p api.Point, c api.Coin) {
	t.Helper()
	if _, ok := w.want.coins[p]; !ok {
		gives(t, w.view, p, c)
		w.want.coins[p] = c
	}
}

// point is mostly a point of one of the latest transactions of the graph, and sometimes has no coin.
func (w *world) point() api.Point {
	n := len(w.want.txs)
	switch {
	case w.one(40):
		return spot(90 + w.IntN(3))
	case n == 0 || w.one(4):
		return spot(w.IntN(10))
	}
	a := w.want.txs[n-1-w.IntN(min(n, 6))]
	if w.one(40) {
		return api.Point{Tx: a.id, N: w.IntN(api.MaxCoins)}
	}
	return api.Point{Tx: a.id, N: w.IntN(len(a.Coins))}
}

// make makes a transaction that mostly passes all checks.
func (w *world) make() api.Tx {
	var a api.Tx
	for range 1 + w.IntN(3) {
		if p := w.point(); !spends(a, p) || w.one(30) {
			a.Spends = append(a.Spends, api.Spend{From: p})
		}
	}
	rest := w.want.balance(a) - w.IntN(1500)
	for range 1 + w.IntN(3) {
		value := max(rest, 0) / (1 + w.IntN(2))
		a.Coins = append(a.Coins, w.coin(value))
		rest -= value
	}
	if w.one(30) {
		a.Coins[0].Value += 2000
	}
	if w.one(60) {
		a.Coins[0].Value = -1
	}
	a.Firm = w.one(3)
	return w.signed(a)
}

// signed is a transaction whose spends mostly unlock their coins.
func (w *world) signed(a api.Tx) api.Tx {
	var list []string
	for _, s := range a.Spends {
		c, _ := w.want.coin(s.From)
		list = append(list, keyOf(c))
	}
	if w.one(40) {
		list[0] = "wrong"
	}
	signed, err := lock.Sign(a, list...)
	if err != nil {
		panic(err)
	}
	if w.one(40) {
		signed.Spends[len(list)-1].Seal++
	}
	return signed
}

// limits are limits of which one is sometimes too small, or just great enough.
func (w *world) limits(a api.Tx) admit.Limits {
	l := admit.Limits{Per: 1000, Weight: 1800, Ancestors: 2 + w.IntN(7), Descendants: 2 + w.IntN(7)}
	if w.one(3) {
		l.Per = w.IntN(2000) - 10
	}
	if w.one(6) {
		l.Weight = tx.Weight(a) - w.IntN(2)
	}
	if w.one(6) {
		l.Ancestors, l.Descendants = w.IntN(3), w.IntN(3)
	}
	if w.one(3) {
		l = free()
	}
	return l
}

// hold holds all that the view tells of a transaction against the model.
func (w *world) hold(t *testing.T, a api.Tx, l admit.Limits) {
	t.Helper()
	e := entryOf(a)
	check, ofFee := w.want.ofAll(e, l), w.want.ofFee(e)
	w.seen[check]++
	lookIs(t, "a scattered transaction", w.view, a, l, w.want.look(a, check), errorOf(a, check))
	fee := 0
	if ofFee == 0 {
		fee = w.want.balance(a)
	}
	feeIs(t, "a scattered transaction", w.view, a, fee, errorOf(a, ofFee))
	missingIs(t, "a scattered transaction", w.view, a, w.want.missing(a)...)
	for _, s := range a.Spends {
		c, ok := w.want.coin(s.From)
		coinIs(t, "a scattered transaction", w.view, s.From, c, ok)
	}
	if check == 0 && len(w.want.conflicts(e)) == 0 {
		w.holdPut(t, a, l, fee)
	}
}

// holdPut holds that a transaction that passes without conflicts can be put, and keeps the limits then (P15.2).
func (w *world) holdPut(t *testing.T, a api.Tx, l admit.Limits, fee int) {
	t.Helper()
	g, id := w.view.Graph.Copy(), tx.ID(a)
	if err := g.Put(a, fee); err != nil {
		t.Errorf("the transaction %v passes, and Put is %v", a, err)
	}
	if len(g.Children(id)) > 0 {
		w.seen[-1]++
		return
	}
	up := g.Ancestors(id)
	if len(up) > l.Ancestors {
		t.Errorf("the transaction %v passes with %v, and has %d ancestors", a, l, len(up))
	}
	for _, x := range up {
		if n := len(g.Descendants(x)); n > l.Descendants {
			t.Errorf("the transaction %v passes with %v, and an ancestor has %d descendants", a, l, n)
		}
	}
}

// change changes the view: mostly a transaction comes in, whether it passes or not.
func (w *world) change(t *testing.T, a api.Tx) {
	t.Helper()
	switch {
	case w.one(8) && len(w.want.txs) > 0:
		i := w.IntN(len(w.want.txs))
		w.view.Graph.Remove(w.want.txs[i].id)
		w.want.txs = slices.Delete(slices.Clone(w.want.txs), i, i+1)
	case w.one(12):
		w.give(t, tx.Point(a, w.IntN(4)), w.coin(w.IntN(5000)))
	case w.one(2) && w.view.Graph.Put(a, w.IntN(1000)) == nil:
		w.want.txs = append(slices.Clone(w.want.txs), entryOf(clone(a)))
	}
}

// P15.1, P15.2: scattered transactions with scattered limits, on views whose graphs grow and shrink.
func TestScatteredTransactions(t *testing.T) {
	w := world{Rand: rand.New(rand.NewPCG(15, 45)), seen: map[int]int{}}
	var last []api.Tx
	for i := range 8000 {
		if i%100 == 0 {
			w.begin(t)
			last = nil
		}
		a := w.make()
		if len(last) > 0 && w.one(4) {
			a = last[w.IntN(len(last))]
		}
		last = append(last, a)
		w.hold(t, a, w.limits(a))
		w.change(t, a)
		if t.Failed() {
			t.Fatalf("after %d transactions", i+1)
		}
	}
	for check := -1; check <= 9; check++ {
		if w.seen[check] < 20 {
			t.Errorf("the transactions with the result %d are %d, too few for a test: %v", check, w.seen[check], w.seen)
		}
	}
}

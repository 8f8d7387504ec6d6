package evict_test

import (
	"bytes"
	"math"
	"math/bits"
	"math/rand/v2"
	"slices"
	"testing"

	"gossamer/api"
	"gossamer/evict"
	"gossamer/graph"
	"gossamer/tx"
)

// entry is a transaction with its id, its fee and its weight.
type entry struct {
	api.Tx
	id          api.Hash
	fee, weight int
}

// model is the transactions of a graph in the order of insertion.
type model []entry

// isParent tells whether a has a coin that b spends.
func isParent(a, b entry) bool {
	return slices.ContainsFunc(b.Spends, func(s api.Spend) bool { return s.From.Tx == a.id && s.From.N >= 0 && s.From.N < len(a.Coins) })
}

// some is those of the transactions that are picked.
func (m model) some(pick func(a entry) bool) model {
	var list model
	for _, a := range m {
		if pick(a) {
			list = append(list, a)
		}
	}
	return list
}

func (m model) has(id api.Hash) bool {
	return slices.ContainsFunc(m, func(a entry) bool { return a.id == id })
}

// from is those of the ids that are there, and all that descends from them.
func (m model) from(ids ...api.Hash) model {
	list := m.some(func(a entry) bool { return slices.Contains(ids, a.id) })
	for {
		more := m.some(func(b entry) bool {
			return list.has(b.id) || slices.ContainsFunc(list, func(a entry) bool { return isParent(a, b) })
		})
		if len(more) == len(list) {
			return list
		}
		list = more
	}
}

// without is those that aren't in a list.
func (m model) without(list model) model {
	return m.some(func(a entry) bool { return !list.has(a.id) })
}

// bundle is a package with the sums of its fees and weights, which are too few to wrap around.
type bundle struct {
	txs         model
	fee, weight int
}

func (m model) bundle(id api.Hash) bundle {
	b := bundle{txs: m.from(id)}
	for _, a := range b.txs {
		b.fee, b.weight = b.fee+a.fee, b.weight+a.weight
	}
	return b
}

// less tells whether the rate of a package is less than that of another one.
func (b bundle) less(o bundle) bool {
	if b.fee > api.MaxMoney || o.fee > api.MaxMoney {
		return b.fee <= api.MaxMoney
	}
	high, low := bits.Mul64(uint64(b.fee), uint64(o.weight))
	otherHigh, otherLow := bits.Mul64(uint64(o.fee), uint64(b.weight))
	return high < otherHigh || high == otherHigh && low < otherLow
}

// worst is the last package of which no other one is less, and how many there are of its rate.
func (m model) worst() (model, int) {
	var all []bundle
	for _, a := range m {
		all = append(all, m.bundle(a.id))
	}
	var last model
	n := 0
	for _, b := range all {
		if !slices.ContainsFunc(all, func(other bundle) bool { return other.less(b) }) {
			last, n = b.txs, n+1
		}
	}
	return last, n
}

func (m model) ids() []api.Hash {
	var list []api.Hash
	for _, a := range m {
		list = append(list, a.id)
	}
	return list
}

func (m model) txs() []api.Tx {
	var list []api.Tx
	for _, a := range m {
		list = append(list, a.Tx)
	}
	return list
}

// record is an id with its tick.
type record struct {
	id   api.Hash
	tick int
}

// book is an age table: each id once, by ticks and then by their bytes.
type book []record

func (b book) with(id api.Hash, tick int) book {
	list := append(b.without(id), record{id, tick})
	slices.SortFunc(list, func(x, y record) int {
		if x.tick != y.tick {
			return map[bool]int{true: -1, false: 1}[x.tick < y.tick]
		}
		return bytes.Compare(x.id[:], y.id[:])
	})
	return list
}

func (b book) without(ids ...api.Hash) book {
	return slices.DeleteFunc(slices.Clone(b), func(r record) bool { return slices.Contains(ids, r.id) })
}

func (b book) old(before int) []api.Hash {
	var list []api.Hash
	for _, r := range b {
		if r.tick < before {
			list = append(list, r.id)
		}
	}
	return list
}

// bookOf is all that an age table has, of which no tick is the greatest number: an id is old before its tick and 1, and not before its tick.
func bookOf(a *evict.Ages) book {
	var list book
	for all := a.Old(math.MaxInt); len(list) < len(all); {
		low, high := 0, math.MaxInt
		for low < high {
			if middle := low + (high-low)/2; len(a.Old(middle)) > len(list) {
				high = middle
			} else {
				low = middle + 1
			}
		}
		for _, id := range a.Old(low)[len(list):] {
			list = append(list, record{id, low - 1})
		}
	}
	return list
}

// agesIs holds what an age table has, of which no tick is the greatest number.
func agesIs(t *testing.T, name string, a *evict.Ages, want book) {
	t.Helper()
	if a.Len() != len(want) {
		t.Errorf("behind %s, Len is %d, want %d", name, a.Len(), len(want))
	}
	at := []int{math.MinInt, -1, 0, math.MaxInt}
	for _, r := range want {
		at = append(at, r.tick, r.tick+1)
	}
	slices.Sort(at)
	for _, before := range slices.Compact(at) {
		oldIs(t, name, a, before, want.old(before)...)
	}
}

// pool is a graph and an age table, and what they should be.
type pool struct {
	graph *graph.Graph
	want  model
	ages  *evict.Ages
	book  book
}

func emptyPool() pool {
	return pool{graph: graph.New(), ages: evict.NewAges()}
}

// world is pools on which scattered calls are made, some of them copies of others.
type world struct {
	*rand.Rand
	pools []pool
	seen  map[string]int
}

// one tells whether one of n chances came.
func (w *world) one(n int) bool {
	return w.IntN(n) == 0
}

// point is mostly a coin of a transaction of the graph.
func (w *world) point(m model) api.Point {
	if len(m) == 0 || w.one(3) {
		return spot(w.IntN(40))
	}
	return tx.Point(m[w.IntN(len(m))].Tx, w.IntN(4))
}

// put puts a transaction, if nothing speaks against that, and mostly tells when it came.
func (w *world) put(t *testing.T, p *pool) {
	t.Helper()
	var points []api.Point
	for range 1 + w.IntN(3) {
		if x := w.point(p.want); !slices.Contains(points, x) {
			points = append(points, x)
		}
	}
	a := making(2+w.IntN(2), points...)
	// Mostly some few rates, so that many are equal.
	fee := w.IntN(4) * tx.Weight(a)
	switch {
	case w.one(3):
		fee = w.IntN(2000)
	case w.one(6):
		fee = api.MaxMoney/2 + w.IntN(5) - 2
	case w.one(12):
		fee = api.MaxMoney - w.IntN(3)
	}
	if p.graph.Put(a, fee) == nil {
		p.want = append(slices.Clone(p.want), entry{clone(a), tx.ID(a), fee, tx.Weight(a)})
		w.came(t, p, tx.ID(a))
	}
}

// came tells of an id, mostly at some few ticks.
func (w *world) came(t *testing.T, p *pool, id api.Hash) {
	t.Helper()
	tick := w.IntN(12)
	switch {
	case w.one(10):
		return
	case w.one(12):
		tick = []int{1 << 40, math.MaxInt - 1, -1, math.MinInt}[w.IntN(4)]
	}
	if tick < 0 {
		w.seen["came range"]++
		if err := p.ages.Came(id, tick); err != api.ErrRange {
			t.Errorf("Came at %d is %v", tick, err)
		}
		return
	}
	w.seen["came"]++
	came(t, p.ages, tick, id)
	p.book = p.book.with(id, tick)
}

// id is the id of a transaction of the graph, or one of the table, or another one.
func (w *world) id(p *pool) api.Hash {
	switch {
	case len(p.want) > 0 && w.one(2):
		return p.want[w.IntN(len(p.want))].id
	case len(p.book) > 0 && w.one(2):
		return p.book[w.IntN(len(p.book))].id
	}
	return hash(9, byte(w.IntN(8)))
}

// shrink reduces the graph, mostly by some few.
func (w *world) shrink(t *testing.T, p *pool) {
	t.Helper()
	most := max(len(p.want)-w.IntN(8), 0)
	switch {
	case w.one(10):
		most = []int{0, len(p.want) + 1, math.MaxInt}[w.IntN(3)]
	case w.one(10):
		most = []int{-1, -2, math.MinInt}[w.IntN(3)]
	}
	if most < 0 {
		w.seen["shrink range"]++
		shrinkFails(t, "a scattered graph", p.graph, most, api.ErrRange)
		return
	}
	rest := p.want
	var gone model
	for len(rest) > most {
		worst, equals := rest.worst()
		if equals > 1 {
			w.seen["equal"]++
		}
		if len(worst) > 1 {
			w.seen["great"]++
		}
		gone, rest = append(gone, worst...), rest.without(worst)
	}
	w.seen["shrink"]++
	shrinkIs(t, "a scattered graph", p.graph, most, gone.txs()...)
	p.want = rest
}

func (w *world) expire(t *testing.T, p *pool) {
	t.Helper()
	before := w.IntN(6)
	if w.one(10) {
		before = []int{math.MinInt, -1, 1 << 41, math.MaxInt}[w.IntN(4)]
	}
	old := p.book.old(before)
	gone := p.want.from(old...)
	if len(gone) > 0 {
		w.seen["expire"]++
	}
	for _, id := range gone.ids() {
		if !slices.Contains(old, id) {
			w.seen["young"]++
		}
	}
	expireIs(t, "a scattered graph", p.ages, p.graph, p.book, before, gone.txs()...)
	p.want, p.book = p.want.without(gone), p.book.without(old...).without(gone.ids()...)
}

// step makes one scattered call on one of the pools.
func (w *world) step(t *testing.T) {
	t.Helper()
	p := &w.pools[w.IntN(len(w.pools))]
	switch n := w.IntN(60); {
	case n < 2:
		w.pools[w.IntN(len(w.pools))] = pool{p.graph.Copy(), p.want, p.ages.Copy(), p.book}
	case n < 5:
		w.shrink(t, p)
	case n < 8:
		w.expire(t, p)
	case n < 11:
		ids := []api.Hash{w.id(p), w.id(p), w.id(p)}[:w.IntN(4)]
		p.ages.Gone(ids...)
		p.book = p.book.without(ids...)
	case n < 18:
		w.came(t, p, w.id(p))
	case n < 20:
		id := w.id(p)
		p.graph.Remove(id)
		p.want = p.want.some(func(a entry) bool { return a.id != id })
	default:
		w.put(t, p)
	}
}

// P17.1, P17.2, P17.3: any calls in any order do what the definitions say.
func TestScatteredCalls(t *testing.T) {
	w := world{Rand: rand.New(rand.NewPCG(17, 51)), pools: []pool{emptyPool(), emptyPool(), emptyPool()}, seen: map[string]int{}}
	for i := range 4000 {
		w.step(t)
		for _, p := range w.pools {
			worst, _ := p.want.worst()
			worstIs(t, "a scattered graph", p.graph, worst.ids()...)
			agesIs(t, "scattered calls", p.ages, p.book)
			if got := p.graph.IDs(); !slices.Equal(got, p.want.ids()) {
				t.Errorf("the graph has %x, want %x", got, p.want.ids())
			}
		}
		if t.Failed() {
			t.Fatalf("after %d calls", i+1)
		}
	}
	for _, kind := range []string{"came", "came range", "shrink", "shrink range", "equal", "great", "expire", "young"} {
		if w.seen[kind] < 10 {
			t.Errorf("the calls of the kind %q are %d, too few for a test: %v", kind, w.seen[kind], w.seen)
		}
	}
}

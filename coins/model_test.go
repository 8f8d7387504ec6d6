package coins_test

import (
	"bytes"
	"math/big"
	"slices"
	"testing"

	"gossamer/api"
	"gossamer/coins"
	"gossamer/tx"
)

// model is a coin set as the chapter defines it: points and their coins, in increasing order of the points.
type model []entry

type entry struct {
	p api.Point
	c api.Coin
}

// less is the order of points.
func less(p, q api.Point) bool {
	if p.Tx != q.Tx {
		return bytes.Compare(p.Tx[:], q.Tx[:]) < 0
	}
	return p.N < q.N
}

// place is where a point is, or -1.
func (m model) place(p api.Point) int {
	return slices.IndexFunc(m, func(e entry) bool { return e.p == p })
}

func (m model) has(p api.Point) bool {
	return m.place(p) >= 0
}

// with is the set with a coin more, or with another coin at a point that it has.
func (m model) with(p api.Point, c api.Coin) model {
	list := slices.Clone(m)
	if i := list.place(p); i >= 0 {
		list[i].c = c
		return list
	}
	at := 0
	for at < len(list) && less(list[at].p, p) {
		at++
	}
	return slices.Insert(list, at, entry{p, c})
}

// without is the set without a point.
func (m model) without(p api.Point) model {
	list := slices.Clone(m)
	if i := list.place(p); i >= 0 {
		list = slices.Delete(list, i, i+1)
	}
	return list
}

func isAmount(n *big.Int) bool {
	return n.Sign() >= 0 && n.Cmp(big.NewInt(api.MaxMoney)) <= 0
}

// sumOf is a sum of values, of which each must be an amount, and the sum, too.
func sumOf(list []api.Coin) (int, error) {
	sum := new(big.Int)
	for _, c := range list {
		if !isAmount(big.NewInt(int64(c.Value))) {
			return 0, api.ErrValue
		}
		sum.Add(sum, big.NewInt(int64(c.Value)))
	}
	if !isAmount(sum) {
		return 0, api.ErrValue
	}
	return int(sum.Int64()), nil
}

func (m model) worth() (int, error) {
	var list []api.Coin
	for _, e := range m {
		list = append(list, e.c)
	}
	return sumOf(list)
}

func (m model) put(p api.Point, c api.Coin) (model, error) {
	if !isAmount(big.NewInt(int64(c.Value))) {
		return m, api.ErrValue
	}
	if m.has(p) {
		return m, api.ErrDup
	}
	return m.with(p, c), nil
}

// fee is the fee of a transaction, and the coins that it spends.
func (m model) fee(t api.Tx) (int, []api.Coin, error) {
	if err := tx.Check(t); err != nil {
		return 0, nil, err
	}
	var spent []api.Coin
	for _, s := range t.Spends {
		if !m.has(s.From) {
			return 0, nil, api.ErrOrphan
		}
		spent = append(spent, m[m.place(s.From)].c)
	}
	for i, s := range t.Spends {
		if first(s.Key) != spent[i].Lock || seal(s.Key, t) != s.Seal {
			return 0, nil, api.ErrWitness
		}
	}
	in, err := sumOf(spent)
	if err != nil {
		return 0, nil, err
	}
	out, err := sumOf(t.Coins)
	if err != nil || out > in {
		return 0, nil, api.ErrValue
	}
	return in - out, spent, nil
}

func (m model) do(t api.Tx) (model, coins.Undo, error) {
	_, spent, err := m.fee(t)
	if err != nil {
		return m, coins.Undo{}, err
	}
	after := m
	for n, c := range t.Coins {
		if m.has(own(t, n)) {
			return m, coins.Undo{}, api.ErrDup
		}
		after = after.with(own(t, n), c)
	}
	for _, s := range t.Spends {
		after = after.without(s.From)
	}
	return after, coins.Undo{Tx: t, Coins: spent}, nil
}

func (m model) back(u coins.Undo) (model, error) {
	if len(u.Coins) != len(u.Tx.Spends) {
		return m, api.ErrRange
	}
	after := m
	for n := range u.Tx.Coins {
		if !m.has(own(u.Tx, n)) {
			return m, api.ErrNone
		}
		after = after.without(own(u.Tx, n))
	}
	for i, s := range u.Tx.Spends {
		if m.has(s.From) {
			return m, api.ErrDup
		}
		after = after.with(s.From, u.Coins[i])
	}
	return after, nil
}

// both is a set, and what it should be.
type both struct {
	set  *coins.Set
	want model
}

// world is sets on which scattered calls are made, all of the same points and keys.
type world struct {
	scatter
	sets  []both
	txs   []api.Tx
	undos []coins.Undo
	seen  map[string]int
}

var keys = [...]string{"a", "b", "c"}

func (w *world) key() string {
	return keys[w.below(len(keys))]
}

// point is a point of a set, of a transaction, or one of a few others.
func (w *world) point(m model) api.Point {
	if len(m) > 0 && !w.one(8) {
		return m[w.below(len(m))].p
	}
	if len(w.txs) > 0 && w.one(2) {
		return own(w.txs[w.below(len(w.txs))], w.below(3))
	}
	return api.Point{Tx: hash(byte(w.below(4))), N: w.below(5)}
}

// value is mostly a small amount, and sometimes a very great one or none.
func (w *world) value() int {
	switch {
	case w.one(30):
		return -1
	case w.one(30):
		return api.MaxMoney + w.below(2)
	}
	return w.below(20)
}

// tx is a transaction that spends points of a set mostly, and mostly by the right keys.
func (w *world) tx(m model) api.Tx {
	var t api.Tx
	for range 1 + w.below(3) {
		s := api.Spend{From: w.point(m), Key: w.key()}
		if i := m.place(s.From); i >= 0 && !w.one(12) {
			s.Key = keyOf(m[i].c)
		}
		if !slices.ContainsFunc(t.Spends, func(o api.Spend) bool { return o.From == s.From }) || w.one(20) {
			t.Spends = append(t.Spends, s)
		}
	}
	for range 1 + w.below(3) {
		t.Coins = append(t.Coins, coin(w.below(12), w.key()))
	}
	t.Firm = w.one(3)
	if w.one(25) {
		t.Coins = nil
	}
	t = sealed(t)
	if w.one(20) {
		t.Spends[w.below(len(t.Spends))].Seal++
	}
	return t
}

// keyOf is the key that unlocks a coin.
func keyOf(c api.Coin) string {
	for _, key := range keys {
		if first(key) == c.Lock {
			return key
		}
	}
	return ""
}

// undo is one that a call returned, to be undone on any set, and sometimes changed.
func (w *world) undo() coins.Undo {
	if len(w.undos) == 0 || w.one(30) {
		return coins.Undo{}
	}
	// The latest ones can be undone more often than the others.
	u := w.undos[max(0, len(w.undos)-1-w.below(1+w.below(len(w.undos))))]
	u = coins.Undo{Tx: clone(u.Tx), Coins: slices.Clone(u.Coins)}
	switch w.below(20) {
	case 0:
		u.Coins = u.Coins[1:]
	case 1:
		u.Coins = append(u.Coins, coin(3, "a"))
	case 2:
		u.Tx.Coins = nil
	case 3:
		u.Coins[0] = coin(w.value(), w.key())
	case 4:
		u.Tx.Spends = append(u.Tx.Spends, u.Tx.Spends[0])
		u.Coins = append(u.Coins, coin(w.value(), w.key()))
		u.Tx.Coins = nil
	}
	return u
}

// count counts what a kind of call returned.
func (w *world) count(call string, err error) {
	if err != nil {
		call += " " + err.Error()
	}
	w.seen[call]++
}

// step makes one scattered call on one of the sets, and holds it against the model.
func (w *world) step(t *testing.T) {
	b := &w.sets[w.below(len(w.sets))]
	switch w.below(10) {
	case 0, 1:
		w.put(t, b, w.point(b.want))
	case 2, 3, 4, 5:
		w.do(t, b)
	case 6, 7, 8:
		w.back(t, b)
	case 9:
		other := both{b.set.Copy(), b.want}
		w.sets[w.below(len(w.sets))] = other
	}
}

func (w *world) put(t *testing.T, b *both, p api.Point) {
	c := coin(w.value(), w.key())
	after, want := b.want.put(p, c)
	w.count("put", want)
	putIs(t, "a scattered coin", b.set, p, c, want)
	b.want = after
}

func (w *world) do(t *testing.T, b *both) {
	a := w.tx(b.want)
	if len(w.txs) > 0 && w.one(4) {
		a = w.txs[len(w.txs)-1-w.below(min(len(w.txs), 5))]
	}
	if w.one(15) {
		w.put(t, b, own(a, w.below(len(a.Coins)+1)))
	}
	fee, _, feeErr := b.want.fee(a)
	w.count("fee", feeErr)
	feeIs(t, "a scattered transaction", b.set, a, fee, feeErr)
	w.txs = append(w.txs, a)
	if w.one(3) {
		return
	}
	after, undo, want := b.want.do(a)
	w.count("do", want)
	if want != nil {
		doFails(t, "a scattered transaction", b.set, a, want)
		return
	}
	w.undos = append(w.undos, does(t, "a scattered transaction", b.set, a, undo.Coins...))
	b.want = after
}

func (w *world) back(t *testing.T, b *both) {
	u := w.undo()
	after, want := b.want.back(u)
	w.count("back", want)
	backIs(t, "something to undo", b.set, u, want)
	b.want = after
}

// P12.1, P12.3: any calls in any order do what the definitions say, on sets of which some are copies of others.
func TestScatteredCalls(t *testing.T) {
	w := world{scatter: 310, seen: map[string]int{}}
	for range 4 {
		w.sets = append(w.sets, both{set: coins.New()})
	}
	for i := range 8000 {
		w.step(t)
		for _, b := range w.sets {
			unchanged(t, "scattered calls", b.set, b.want)
			worth, err := b.want.worth()
			worthIs(t, "scattered coins", b.set, worth, err)
		}
		if t.Failed() {
			t.Fatalf("after %d calls", i+1)
		}
		// Some forgetting lets the same things happen again.
		if i%200 == 199 {
			w.txs, w.undos = nil, nil
			w.sets[w.below(4)] = both{set: coins.New()}
		}
	}
	for _, call := range []string{
		"put", "put value", "put dup", "fee", "fee form", "fee spent", "fee orphan", "fee witness", "fee value",
		"do", "do form", "do spent", "do orphan", "do witness", "do value", "do dup", "back", "back range", "back none", "back dup",
	} {
		if w.seen[call] < 5 {
			t.Errorf("the calls with the result %q are %d, too few for a test", call, w.seen[call])
		}
	}
}

package evict_test

import (
	"fmt"
	"reflect"
	"slices"
	"testing"

	"gossamer/amount"
	"gossamer/api"
	"gossamer/evict"
	"gossamer/graph"
	"gossamer/tx"
)

// hash is a digest with so many bytes in front, and zero bytes behind them.
func hash(front ...byte) api.Hash {
	var h api.Hash
	copy(h[:], front)
	return h
}

// spot is a point of a coin that no transaction of a graph makes.
func spot(i int) api.Point {
	return api.Point{Tx: hash(7, byte(i), byte(i>>8)), N: i % api.MaxCoins}
}

// making is a transaction that spends points for so many coins.
func making(n int, points ...api.Point) api.Tx {
	var a api.Tx
	for _, p := range points {
		a.Spends = append(a.Spends, api.Spend{From: p, Key: "k", Seal: 3})
	}
	for i := range n {
		a.Coins = append(a.Coins, api.Coin{Value: i + 1, Lock: uint64(70 + i)})
	}
	return a
}

// pay is a transaction of two coins. All of those that spend one point have the same weight.
func pay(points ...api.Point) api.Tx {
	return making(2, points...)
}

// side is n transactions that have nothing to do with one another, all of one weight.
func side(n int) []api.Tx {
	var list []api.Tx
	for i := range n {
		list = append(list, pay(spot(i)))
	}
	return list
}

// row is n transactions of one weight, each of which spends a coin of the one before it.
func row(p api.Point, n int) []api.Tx {
	var list []api.Tx
	for range n {
		a := pay(p)
		list, p = append(list, a), tx.Point(a, 1)
	}
	return list
}

// clone is an equal transaction that shares no memory with a, without empty lists.
func clone(a api.Tx) api.Tx {
	other := api.Tx{Firm: a.Firm}
	other.Spends = append(other.Spends, a.Spends...)
	other.Coins = append(other.Coins, a.Coins...)
	return other
}

func cloneAll(txs []api.Tx) []api.Tx {
	var list []api.Tx
	for _, a := range txs {
		list = append(list, clone(a))
	}
	return list
}

// equal tells whether transactions are equal, a nil list and an empty one alike.
func equal(a, b []api.Tx) bool {
	return reflect.DeepEqual(cloneAll(a), cloneAll(b))
}

func idsOf(txs ...api.Tx) []api.Hash {
	var list []api.Hash
	for _, a := range txs {
		list = append(list, tx.ID(a))
	}
	return list
}

// paid is a transaction with a fee.
type paid struct {
	api.Tx
	fee int
}

// graphOf is a graph of transactions with their fees.
func graphOf(t *testing.T, list ...paid) *graph.Graph {
	t.Helper()
	g := graph.New()
	for _, a := range list {
		puts(t, g, a.Tx, a.fee)
	}
	return g
}

func puts(t *testing.T, g *graph.Graph, a api.Tx, fee int) {
	t.Helper()
	if err := g.Put(a, fee); err != nil {
		t.Fatalf("the transaction %v can't be put: %v", a, err)
	}
}

// orders calls do with all orders of a list.
func orders(list []paid, do func(order []paid)) {
	if len(list) == 0 {
		do(nil)
	}
	for i, a := range list {
		rest := slices.Delete(slices.Clone(list), i, i+1)
		orders(rest, func(order []paid) { do(append([]paid{a}, order...)) })
	}
}

// inOrder is those of the transactions, in the order in which a graph's were put.
func inOrder(order []paid, some ...api.Tx) []api.Hash {
	ids := idsOf(some...)
	var list []api.Hash
	for _, a := range order {
		if id := tx.ID(a.Tx); slices.Contains(ids, id) {
			list = append(list, id)
		}
	}
	return list
}

// txsInOrder is those of the transactions, in the order in which a graph's were put.
func txsInOrder(order []paid, some ...api.Tx) []api.Tx {
	var list []api.Tx
	for _, id := range inOrder(order, some...) {
		i := slices.IndexFunc(some, func(a api.Tx) bool { return tx.ID(a) == id })
		list = append(list, some[i])
	}
	return list
}

// state is all that a graph has.
type state struct {
	ids   []api.Hash
	txs   []api.Tx
	rates []amount.Rate
}

// String tells no more of a state than a failed test needs.
func (s state) String() string {
	text := fmt.Sprintf("%d transactions", len(s.ids))
	for i, id := range s.ids {
		text += fmt.Sprintf(", %x with %v", id[:4], s.rates[i])
	}
	return text
}

func stateOf(g *graph.Graph) state {
	s := state{ids: g.IDs()}
	for _, id := range s.ids {
		a, _ := g.Get(id)
		rate, _ := g.Rate(id)
		s.txs, s.rates = append(s.txs, clone(a)), append(s.rates, rate)
	}
	return s
}

// without is a state in which some of the transactions aren't any more.
func (s state) without(gone ...api.Hash) state {
	var rest state
	for i, id := range s.ids {
		if !slices.Contains(gone, id) {
			rest.ids, rest.txs, rest.rates = append(rest.ids, id), append(rest.txs, s.txs[i]), append(rest.rates, s.rates[i])
		}
	}
	return rest
}

// stateIs holds what a graph has.
func stateIs(t *testing.T, name string, g *graph.Graph, want state) {
	t.Helper()
	if got := stateOf(g); !reflect.DeepEqual(got, want) {
		t.Errorf("behind %s, the graph has %v, want %v", name, got, want)
	}
}

// goneIs holds that just these are gone from a graph, and all that descended from them (P17.2).
func goneIs(t *testing.T, name string, before, g *graph.Graph, gone []api.Hash) {
	t.Helper()
	stateIs(t, name, g, stateOf(before).without(gone...))
	for _, id := range before.Descendants(gone...) {
		if g.Has(id) || !slices.Contains(gone, id) {
			t.Errorf("behind %s, the graph has %x, which descends from what is gone: %v, and it is gone: %v", name, id, g.Has(id), slices.Contains(gone, id))
		}
	}
}

// worstIs holds the ids of the worst package, of which none are wanted if there is none.
func worstIs(t *testing.T, name string, g *graph.Graph, want ...api.Hash) {
	t.Helper()
	was := stateOf(g)
	if got, ok := evict.Worst(g); !slices.Equal(got, want) || ok != (len(want) > 0) {
		t.Errorf("of %s, Worst is %x, %v; want %x", name, got, ok, want)
	}
	stateIs(t, name+" and Worst", g, was)
}

// shrinkIs holds what Shrink returns, and that this is gone.
func shrinkIs(t *testing.T, name string, g *graph.Graph, most int, want ...api.Tx) {
	t.Helper()
	before := g.Copy()
	got, err := evict.Shrink(g, most)
	if !equal(got, want) || err != nil {
		t.Errorf("of %s to %d, Shrink is %x, %v; want %x", name, most, idsOf(got...), err, idsOf(want...))
	}
	goneIs(t, name+" and Shrink", before, g, idsOf(want...))
	if g.Len() > most {
		t.Errorf("of %s to %d, Shrink leaves %d", name, most, g.Len())
	}
}

// shrinkFails holds the error of Shrink, which changes nothing.
func shrinkFails(t *testing.T, name string, g *graph.Graph, most int, want error) {
	t.Helper()
	was := stateOf(g)
	if got, err := evict.Shrink(g, most); len(got) > 0 || err != want {
		t.Errorf("of %s to %d, Shrink is %v, %v; want %v", name, most, got, err, want)
	}
	stateIs(t, name+" and Shrink", g, was)
}

// came records ids that can be recorded.
func came(t *testing.T, a *evict.Ages, tick int, ids ...api.Hash) {
	t.Helper()
	for _, id := range ids {
		if err := a.Came(id, tick); err != nil {
			t.Fatalf("Came of %x at %d is %v", id, tick, err)
		}
	}
}

// cameFails holds the error of Came, which changes nothing.
func cameFails(t *testing.T, a *evict.Ages, id api.Hash, tick int, want error) {
	t.Helper()
	was := bookOf(a)
	if err := a.Came(id, tick); err != want {
		t.Errorf("Came of %x at %d is %v, want %v", id, tick, err, want)
	}
	agesIs(t, "an error of Came", a, was)
}

// oldIs holds which ids are old.
func oldIs(t *testing.T, name string, a *evict.Ages, before int, want ...api.Hash) {
	t.Helper()
	if got := a.Old(before); !slices.Equal(got, want) {
		t.Errorf("of %s, Old of %d is %x, want %x", name, before, got, want)
	}
}

// expireIs holds what Expire returns for an age table that has what a book has, and that this is gone from the graph, and it and the old ids from the table.
func expireIs(t *testing.T, name string, a *evict.Ages, g *graph.Graph, has book, before int, want ...api.Tx) {
	t.Helper()
	was, gone := g.Copy(), idsOf(want...)
	if got := a.Expire(g, before); !equal(got, want) {
		t.Errorf("of %s before %d, Expire is %x, want %x", name, before, idsOf(got...), gone)
	}
	goneIs(t, name+" and Expire", was, g, gone)
	agesIs(t, name+" and Expire", a, has.without(has.old(before)...).without(gone...))
}

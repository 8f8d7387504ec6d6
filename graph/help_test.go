package graph_test

import (
	"math"
	"reflect"
	"slices"
	"strings"
	"testing"

	"gossamer/amount"
	"gossamer/api"
	"gossamer/graph"
	"gossamer/tx"
)

// hash is a digest with so many bytes in front, and zero bytes behind them.
func hash(front ...byte) api.Hash {
	var h api.Hash
	copy(h[:], front)
	return h
}

// spot is a point of a coin that no transaction of a graph makes.
func spot(i int) api.Point {
	return api.Point{Tx: hash(7, byte(i), byte(i>>8)), N: i % api.MaxCoins}
}

// making is a transaction that spends points for so many coins, of the values 1, 2 and so on.
func making(n int, points ...api.Point) api.Tx {
	var a api.Tx
	for _, p := range points {
		a.Spends = append(a.Spends, api.Spend{From: p, Key: "k", Seal: 3})
	}
	for i := range n {
		a.Coins = append(a.Coins, api.Coin{Value: i + 1, Lock: uint64(70 + i)})
	}
	return a
}

// side is n transactions that have nothing to do with one another.
func side(n int) []api.Tx {
	var list []api.Tx
	for i := range n {
		list = append(list, making(1+i%3, spot(i)))
	}
	return list
}

// row is n transactions, each of which spends a coin of the one before it.
func row(p api.Point, n int) []api.Tx {
	var list []api.Tx
	for i := range n {
		a := making(1+i%3, p)
		list, p = append(list, a), tx.Point(a, i%3)
	}
	return list
}

// twin has the id of a transaction, and another witness and weight.
func twin(a api.Tx) api.Tx {
	other := clone(a)
	other.Spends[0].Key += "more"
	other.Spends[0].Seal++
	return other
}

// idsOf is the ids of transactions.
func idsOf(txs ...api.Tx) []api.Hash {
	var list []api.Hash
	for _, a := range txs {
		list = append(list, tx.ID(a))
	}
	return list
}

// clone is an equal transaction that shares no memory with a, without empty lists.
func clone(a api.Tx) api.Tx {
	other := api.Tx{Firm: a.Firm}
	other.Spends = append(other.Spends, a.Spends...)
	other.Coins = append(other.Coins, a.Coins...)
	return other
}

func cloneAll(txs []api.Tx) []api.Tx {
	var list []api.Tx
	for _, a := range txs {
		list = append(list, clone(a))
	}
	return list
}

// equal tells whether transactions are equal, a nil list and an empty one alike.
func equal(a, b []api.Tx) bool {
	return reflect.DeepEqual(cloneAll(a), cloneAll(b))
}

// invalid are transactions that aren't valid, with their errors.
func invalid() map[string]struct {
	tx   api.Tx
	want error
} {
	valid := making(2, spot(50), spot(51))
	change := func(do func(a *api.Tx)) api.Tx {
		a := clone(valid)
		do(&a)
		return a
	}
	return map[string]struct {
		tx   api.Tx
		want error
	}{
		"nothing":                 {api.Tx{}, api.ErrForm},
		"no spends":               {making(2), api.ErrForm},
		"no coins":                {making(0, spot(50)), api.ErrForm},
		"too many coins":          {making(9, spot(50)), api.ErrForm},
		"too many spends":         {making(1, spot(50), spot(51), spot(52), spot(53), spot(54), spot(55), spot(56), spot(57), spot(58)), api.ErrForm},
		"a long key":              {change(func(a *api.Tx) { a.Spends[1].Key = strings.Repeat("k", 33) }), api.ErrForm},
		"a number of -1":          {change(func(a *api.Tx) { a.Spends[1].From.N = -1 }), api.ErrForm},
		"a number of 8":           {change(func(a *api.Tx) { a.Spends[1].From.N = 8 }), api.ErrForm},
		"a negative value":        {change(func(a *api.Tx) { a.Coins[1].Value = -1 }), api.ErrValue},
		"a value too great":       {change(func(a *api.Tx) { a.Coins[1].Value = api.MaxMoney + 1 }), api.ErrValue},
		"values too great by one": {change(func(a *api.Tx) { a.Coins[1].Value = api.MaxMoney }), api.ErrValue},
		"a point spent twice":     {change(func(a *api.Tx) { a.Spends[1].From = spot(50) }), api.ErrSpent},
	}
}

// notAmounts are numbers that aren't amounts.
func notAmounts() []int {
	return []int{-1, -2, -api.MaxMoney, math.MinInt, api.MaxMoney + 1, 1 << 62, math.MaxInt}
}

// puts puts a transaction that can be put.
func puts(t *testing.T, name string, g *graph.Graph, a api.Tx, fee int) {
	t.Helper()
	if err := g.Put(a, fee); err != nil {
		t.Fatalf("with %s, Put is %v", name, err)
	}
}

// putIs holds the error of Put, which changes nothing.
func putIs(t *testing.T, name string, g *graph.Graph, m model, a api.Tx, fee int, want error) {
	t.Helper()
	if err := g.Put(a, fee); err != want {
		t.Errorf("with %s, Put is %v, want %v", name, err, want)
	}
	graphIs(t, name, g, m)
}

// graphOf is a graph of transactions with the fees 10, 11 and so on, and what it should be.
func graphOf(t *testing.T, txs ...api.Tx) (*graph.Graph, model) {
	t.Helper()
	g := graph.New()
	var m model
	for i, a := range txs {
		puts(t, "a new transaction", g, a, 10+i)
		m = m.with(a, 10+i)
	}
	return g, m
}

// listIs holds a list of ids against what it should be.
func listIs(t *testing.T, name string, got, want []api.Hash) {
	t.Helper()
	if !slices.Equal(got, want) {
		t.Errorf("%s: the ids are %x, want %x", name, got, want)
	}
}

func rateIs(t *testing.T, name string, g *graph.Graph, ids []api.Hash, want amount.Rate, wantErr error) {
	t.Helper()
	if got, err := g.Rate(ids...); got != want || err != wantErr {
		t.Errorf("of %s, Rate is %v, %v; want %v, %v", name, got, err, want, wantErr)
	}
}

func getIs(t *testing.T, name string, g *graph.Graph, id api.Hash, want api.Tx, ok bool) {
	t.Helper()
	got, is := g.Get(id)
	if is != ok || !equal([]api.Tx{got}, []api.Tx{want}) || !ok && !reflect.DeepEqual(got, api.Tx{}) {
		t.Errorf("of %s, Get is %v, %v; want %v, %v", name, got, is, want, ok)
	}
	if has := g.Has(id); has != ok {
		t.Errorf("of %s, Has is %v, want %v", name, has, ok)
	}
}

func spenderIs(t *testing.T, name string, g *graph.Graph, p api.Point, want api.Hash, ok bool) {
	t.Helper()
	if got, is := g.Spender(p); got != want || is != ok {
		t.Errorf("of %s, Spender is %x, %v; want %x, %v", name, got, is, want, ok)
	}
}

func coinIs(t *testing.T, name string, g *graph.Graph, p api.Point, want api.Coin, ok bool) {
	t.Helper()
	if got, is := g.Coin(p); got != want || is != ok {
		t.Errorf("of %s, Coin is %v, %v; want %v, %v", name, got, is, want, ok)
	}
}

func removeIs(t *testing.T, name string, g *graph.Graph, ids []api.Hash, want []api.Tx) {
	t.Helper()
	if got := g.Remove(ids...); !equal(got, want) {
		t.Errorf("of %s, Remove is %v, want %v", name, got, want)
	}
}

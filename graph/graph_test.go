package graph_test

import (
	"fmt"
	"math"
	"slices"
	"strings"
	"testing"

	"gossamer/amount"
	"gossamer/api"
	"gossamer/graph"
	"gossamer/tx"
)

// P14.1: New

func TestNew(t *testing.T) {
	g := graph.New()
	if g == nil {
		t.Fatal("a new graph is nil")
	}
	graphIs(t, "a new graph", g, nil)
	absentIs(t, "a new graph", g, making(1, spot(0)))
	absentIs(t, "a new graph", g, api.Tx{})
	removeIs(t, "a new graph", g, idsOf(side(2)...), nil)
	removeIs(t, "a new graph and no ids", g, nil, nil)
	listIs(t, "a new graph: Conflicts", g.Conflicts(making(1, spot(0))), nil)
	listIs(t, "a new graph: Ancestors", g.Ancestors(), nil)
	listIs(t, "a new graph: Descendants", g.Descendants(), nil)
	rateIs(t, "a new graph and no ids", g, nil, amount.Rate{}, api.ErrNone)
	puts(t, "a new graph", g, making(1, spot(0)), 5)
	graphIs(t, "another new graph", graph.New(), nil)
}

// P14.1: Put

func TestPut(t *testing.T) {
	txs := side(40)
	g, m := graph.New(), model(nil)
	for i, a := range txs {
		absentIs(t, "ahead of Put", g, a)
		puts(t, "a new transaction", g, a, 7*i)
		m = m.with(a, 7*i)
		graphIs(t, "one more", g, m)
	}
}

// The greatest transactions are valid, and so are those without keys and values.
func TestPutOfTransactionsAtTheLimits(t *testing.T) {
	var points []api.Point
	for i := range api.MaxSpends {
		points = append(points, spot(i))
	}
	great := making(api.MaxCoins, points...)
	for i := range great.Spends {
		great.Spends[i].Key, great.Spends[i].Seal = strings.Repeat("k", api.MaxKey), math.MaxUint64
	}
	for i := range great.Coins {
		great.Coins[i].Value = 0
	}
	great.Coins[7].Value = api.MaxMoney
	great.Firm = true
	small := api.Tx{Spends: []api.Spend{{}}, Coins: []api.Coin{{}}}
	g, m := graphOf(t, great, small)
	graphIs(t, "transactions at the limits", g, m)
	if got, err := g.Rate(tx.ID(great)); err != nil || got.Weight != 3*419+747 {
		t.Errorf("of the greatest transaction, Rate is %v, %v", got, err)
	}
}

func TestPutOfInvalidTransactions(t *testing.T) {
	g, m := graphOf(t, side(3)...)
	for name, e := range invalid() {
		putIs(t, name, g, m, e.tx, 5, e.want)
		absentIs(t, name, g, e.tx)
	}
	valid := making(2, spot(50), spot(51))
	puts(t, "a valid one of the same points", g, valid, 5)
	graphIs(t, "a valid one of the same points", g, m.with(valid, 5))
}

func TestPutOfFees(t *testing.T) {
	for _, fee := range []int{0, 1, 2, 1 << 32, api.MaxMoney - 1, api.MaxMoney} {
		g, m := graphOf(t, side(2)...)
		a := making(1, spot(9))
		puts(t, "a fee", g, a, fee)
		graphIs(t, "a fee", g, m.with(a, fee))
	}
	g, m := graphOf(t, side(2)...)
	a := making(1, spot(9))
	for _, fee := range notAmounts() {
		putIs(t, fmt.Sprint("a fee of ", fee), g, m, a, fee, api.ErrValue)
		absentIs(t, "a fee that isn't an amount", g, a)
	}
	// The fee needn't be the one that the coins leave, which a graph doesn't know.
	b := making(8, tx.Point(side(1)[0], 0))
	puts(t, "a fee of more than the coin", g, b, 500)
	graphIs(t, "a fee of more than the coin", g, m.with(b, 500))
}

func TestPutAgain(t *testing.T) {
	txs := side(4)
	g, m := graphOf(t, txs...)
	for i, a := range txs {
		putIs(t, "the same", g, m, a, 10+i, api.ErrDup)
		putIs(t, "another fee", g, m, a, 99, api.ErrDup)
		putIs(t, "another witness", g, m, twin(a), 10+i, api.ErrDup)
	}
}

// Whichever of the points is spent, and by whichever transaction.
func TestPutOfSpentPoints(t *testing.T) {
	parent := making(8, spot(100))
	txs := []api.Tx{parent, making(1, spot(0), spot(1), tx.Point(parent, 3)), making(1, spot(2), tx.Point(parent, 0))}
	g, m := graphOf(t, txs...)
	for _, taken := range []api.Point{spot(0), spot(1), spot(2), spot(100), tx.Point(parent, 0), tx.Point(parent, 3)} {
		putIs(t, "a spent point", g, m, making(1, taken), 5, api.ErrSpent)
		for i := range 8 {
			var points []api.Point
			for j := range 8 {
				points = append(points, spot(200+j))
			}
			points[i] = taken
			a := making(2, points...)
			putIs(t, fmt.Sprint("a spent point at ", i), g, m, a, 5, api.ErrSpent)
			absentIs(t, "a transaction with a spent point", g, a)
			for _, p := range points {
				if p != taken {
					spenderIs(t, "a point beside a spent one", g, p, api.Hash{}, false)
				}
			}
		}
	}
	free := making(1, tx.Point(parent, 1), spot(3))
	puts(t, "other points of the same", g, free, 5)
	graphIs(t, "other points of the same", g, m.with(free, 5))
}

// P14.1, rule 2: the first error of Put

func TestOrderOfErrorsOfPut(t *testing.T) {
	txs := side(3)
	g, m := graphOf(t, txs...)
	for name, e := range invalid() {
		spent := clone(e.tx)
		if len(spent.Spends) > 0 {
			spent.Spends[0].From = txs[1].Spends[0].From
		}
		if name == "a point spent twice" {
			spent.Spends[1] = spent.Spends[0]
		}
		putIs(t, name+" and a spent point", g, m, spent, 5, e.want)
		for _, fee := range notAmounts() {
			putIs(t, name+" and no amount", g, m, e.tx, fee, e.want)
			putIs(t, name+", no amount and a spent point", g, m, spent, fee, e.want)
		}
	}
	// An id doesn't cover keys, so that an invalid transaction can have the id of one that is there.
	long := clone(txs[0])
	long.Spends[0].Key = strings.Repeat("k", 33)
	putIs(t, "a long key and an id that is there", g, m, long, -1, api.ErrForm)
	for _, fee := range notAmounts() {
		putIs(t, "no amount and an id that is there", g, m, txs[1], fee, api.ErrValue)
		putIs(t, "no amount and a spent point", g, m, making(5, txs[1].Spends[0].From), fee, api.ErrValue)
	}
	putIs(t, "an id that is there, whose points are spent", g, m, twin(txs[1]), 5, api.ErrDup)
}

// P14.1: Remove

func TestRemove(t *testing.T) {
	txs := append(side(3), row(spot(10), 4)...)
	ids := idsOf(txs...)
	for name, e := range map[string]struct {
		ids  []api.Hash
		gone []int
	}{
		"none":               {nil, nil},
		"an id of no one":    {[]api.Hash{{}, hash(9)}, nil},
		"the first one":      {ids[:1], []int{0}},
		"the last one":       {ids[6:], []int{6}},
		"one of a row":       {ids[4:5], []int{4}},
		"a row but its last": {ids[3:6], []int{3, 4, 5}},
		"the wrong order":    {[]api.Hash{ids[6], ids[0], ids[4], ids[2]}, []int{0, 2, 4, 6}},
		"some twice":         {[]api.Hash{ids[5], ids[1], ids[5], ids[1], ids[1]}, []int{1, 5}},
		"some of no one":     {[]api.Hash{hash(1), ids[3], {}, ids[2], hash(2)}, []int{2, 3}},
		"all":                {ids, []int{0, 1, 2, 3, 4, 5, 6}},
		"all backwards":      {[]api.Hash{ids[6], ids[5], ids[4], ids[3], ids[2], ids[1], ids[0]}, []int{0, 1, 2, 3, 4, 5, 6}},
	} {
		g, m := graphOf(t, txs...)
		var gone []api.Tx
		for _, i := range e.gone {
			gone = append(gone, txs[i])
		}
		rest, _ := m.remove(idsOf(gone...)...)
		removeIs(t, name, g, e.ids, gone)
		graphIs(t, "behind Remove of "+name, g, rest)
		for _, a := range gone {
			absentIs(t, "behind Remove of "+name, g, a)
			for _, s := range a.Spends {
				spenderIs(t, "a point behind Remove of "+name, g, s.From, api.Hash{}, false)
			}
		}
		removeIs(t, name+" again", g, e.ids, nil)
		graphIs(t, "behind the second Remove of "+name, g, rest)
	}
}

// What was removed can come again: as the last one, with another witness and another fee.
func TestPutOfTheRemoved(t *testing.T) {
	txs := append(row(spot(10), 5), side(2)...)
	for i := range txs {
		g, m := graphOf(t, txs...)
		removeIs(t, "one", g, idsOf(txs[i]), txs[i:i+1])
		m, _ = m.remove(idsOf(txs[i])...)
		again := twin(txs[i])
		puts(t, "the same again", g, again, 77)
		m = m.with(again, 77)
		graphIs(t, "the same again", g, m)
		removeIs(t, "all", g, idsOf(txs...), append(slices.Delete(cloneAll(txs), i, i+1), again))
		graphIs(t, "nothing", g, nil)
		puts(t, "one again", g, txs[i], 3)
		graphIs(t, "one again", g, model{}.with(txs[i], 3))
	}
}

// What a removed transaction spent can be spent by another one.
func TestPutInPlaceOfTheRemoved(t *testing.T) {
	txs := row(spot(10), 4)
	for i, a := range txs {
		g, m := graphOf(t, txs...)
		other := making(5, spot(20), a.Spends[0].From)
		putIs(t, "a spent point", g, m, other, 5, api.ErrSpent)
		removeIs(t, "the one that spends it", g, idsOf(a), txs[i:i+1])
		m, _ = m.remove(idsOf(a)...)
		puts(t, "a point that is spent no more", g, other, 5)
		m = m.with(other, 5)
		graphIs(t, "another one in its place", g, m)
		putIs(t, "the first one again", g, m, a, 5, api.ErrSpent)
		removeIs(t, "the first one, which isn't there", g, idsOf(a), nil)
		graphIs(t, "the other one", g, m)
	}
}

// P14.1: Get and Has

func TestIDsOfOthers(t *testing.T) {
	txs := side(5)
	g, _ := graphOf(t, txs...)
	for _, id := range append(idsOf(txs...), tx.Wide(txs[0])) {
		for i := range id {
			other := id
			other[i]++
			getIs(t, "another id", g, other, api.Tx{}, false)
		}
	}
	getIs(t, "a wide id", g, tx.Wide(txs[0]), api.Tx{}, false)
	getIs(t, "the point of a spend", g, txs[0].Spends[0].From.Tx, api.Tx{}, false)
	getIs(t, "zero bytes", g, api.Hash{}, api.Tx{}, false)
}

// P14.1: Rate

func TestRate(t *testing.T) {
	txs := append(side(4), row(spot(10), 4)...)
	txs[2] = twin(twin(txs[2]))
	ids := idsOf(txs...)
	g, _ := graphOf(t, txs...)
	for name, list := range map[string][]int{
		"one":             {3},
		"several":         {2, 4, 5},
		"another order":   {7, 0, 5, 2},
		"one many times":  {2, 2, 2, 2},
		"some many times": {6, 2, 6, 1, 2, 1, 1},
		"all":             {0, 1, 2, 3, 4, 5, 6, 7},
	} {
		var given []api.Hash
		var want amount.Rate
		for i, n := range list {
			given = append(given, ids[n])
			if !slices.Contains(list[:i], n) {
				want.Fee += 10 + n
				want.Weight += tx.Weight(txs[n])
			}
		}
		rateIs(t, name, g, given, want, nil)
	}
	rateIs(t, "no ids", g, nil, amount.Rate{}, api.ErrNone)
	rateIs(t, "an empty list of ids", g, []api.Hash{}, amount.Rate{}, api.ErrNone)
	for i := range 5 {
		for _, absent := range []api.Hash{{}, hash(9), tx.Wide(txs[1])} {
			given := slices.Insert(slices.Clone(ids[:4]), i, absent)
			rateIs(t, fmt.Sprint("another id at ", i), g, given, amount.Rate{}, api.ErrNone)
		}
	}
}

// A transaction that pays nothing has a rate, too.
func TestRateOfNoFee(t *testing.T) {
	g := graph.New()
	a := making(1, spot(0))
	puts(t, "no fee", g, a, 0)
	rateIs(t, "no fee", g, idsOf(a), amount.Rate{Fee: 0, Weight: tx.Weight(a)}, nil)
}

func TestRateBeyondAnAmount(t *testing.T) {
	txs := side(5)
	ids, g := idsOf(txs...), graph.New()
	for i, fee := range []int{api.MaxMoney, 0, 1, api.MaxMoney - 1, 2} {
		puts(t, "a great fee", g, txs[i], fee)
	}
	weight := func(places ...int) int {
		sum := 0
		for _, i := range places {
			sum += tx.Weight(txs[i])
		}
		return sum
	}
	most := amount.Rate{Fee: api.MaxMoney, Weight: weight(0)}
	rateIs(t, "all money", g, ids[:1], most, nil)
	rateIs(t, "all money twice, of one", g, []api.Hash{ids[0], ids[0]}, most, nil)
	rateIs(t, "all money and nothing", g, ids[:2], amount.Rate{Fee: api.MaxMoney, Weight: weight(0, 1)}, nil)
	rateIs(t, "all money, of two", g, ids[2:4], amount.Rate{Fee: api.MaxMoney, Weight: weight(2, 3)}, nil)
	rateIs(t, "all money and 1", g, []api.Hash{ids[0], ids[2]}, amount.Rate{}, api.ErrValue)
	rateIs(t, "1 and all money", g, []api.Hash{ids[2], ids[0]}, amount.Rate{}, api.ErrValue)
	rateIs(t, "1 too much", g, ids[3:], amount.Rate{}, api.ErrValue)
	for range 20 {
		rateIs(t, "all", g, ids, amount.Rate{}, api.ErrValue)
	}
	rateIs(t, "too much and another id", g, append(slices.Clone(ids), hash(9)), amount.Rate{}, api.ErrNone)
	rateIs(t, "another id and too much", g, append([]api.Hash{{}}, ids...), amount.Rate{}, api.ErrNone)
}

// With 64 bits, the sum of so many fees wraps around to an amount.
func TestRateOfFeesThatWrapAround(t *testing.T) {
	g := graph.New()
	for _, a := range side(8785) {
		puts(t, "all money", g, a, api.MaxMoney)
	}
	rateIs(t, "thousands of times all money", g, g.IDs(), amount.Rate{}, api.ErrValue)
	// A graph has no limit of its own.
	if g.Len() != 8785 || !slices.Equal(g.IDs(), idsOf(side(8785)...)) {
		t.Errorf("a graph of 8785 has %d transactions, or another order", g.Len())
	}
}

// P14.1: a nil graph

func TestNilGraph(t *testing.T) {
	var g *graph.Graph
	a := making(2, spot(0))
	for _, fee := range []int{0, 5, -1, math.MaxInt} {
		if err := g.Put(a, fee); err != api.ErrNone {
			t.Errorf("on a nil graph, Put is %v, want ErrNone", err)
		}
		for name, e := range invalid() {
			if err := g.Put(e.tx, fee); err != api.ErrNone {
				t.Errorf("on a nil graph and with %s, Put is %v, want ErrNone", name, err)
			}
		}
	}
	graphIs(t, "a nil graph", g, nil)
	absentIs(t, "a nil graph", g, a)
	absentIs(t, "a nil graph", g, api.Tx{})
	ids := idsOf(a, making(1, spot(1)))
	for _, list := range [][]api.Hash{nil, ids[:1], ids, {{}}} {
		removeIs(t, "a nil graph", g, list, nil)
		rateIs(t, "a nil graph", g, list, amount.Rate{}, api.ErrNone)
		listIs(t, "a nil graph: Ancestors", g.Ancestors(list...), nil)
		listIs(t, "a nil graph: Descendants", g.Descendants(list...), nil)
	}
	spenderIs(t, "a nil graph", g, spot(0), api.Hash{}, false)
	spenderIs(t, "a nil graph", g, api.Point{}, api.Hash{}, false)
	coinIs(t, "a nil graph", g, api.Point{}, api.Coin{}, false)
	listIs(t, "a nil graph: Conflicts", g.Conflicts(a), nil)
	listIs(t, "a nil graph: Conflicts", g.Conflicts(api.Tx{}), nil)
	if g.Copy() != nil {
		t.Error("the copy of a nil graph isn't nil")
	}
}

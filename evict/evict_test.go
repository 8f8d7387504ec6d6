package evict_test

import (
	"math"
	"slices"
	"testing"

	"gossamer/api"
	"gossamer/evict"
	"gossamer/graph"
	"gossamer/tx"
)

// P17.1: Worst

// The chapter's example, in any order of insertion.
func TestExample(t *testing.T) {
	a, c := pay(spot(0)), pay(spot(1))
	b := pay(tx.Point(a, 0))
	orders([]paid{{a, 100}, {b, 1}, {c, 50}}, func(order []paid) {
		g := graphOf(t, order...)
		worstIs(t, "three", g, tx.ID(b))
		shrinkIs(t, "three", g.Copy(), 2, b)
		shrinkIs(t, "three", g.Copy(), 1, b, c)
		shrinkIs(t, "three", g.Copy(), 0, b, c, a)
		shrinkIs(t, "three", g, 2, b)
		worstIs(t, "two", g, tx.ID(c))
		shrinkIs(t, "two", g, 1, c)
		worstIs(t, "one", g, tx.ID(a))
		shrinkIs(t, "one", g, 0, a)
		worstIs(t, "none", g)
	})
}

func TestWorstOfNoTransactions(t *testing.T) {
	worstIs(t, "no graph", nil)
	worstIs(t, "a new graph", graph.New())
	a := pay(spot(0))
	g := graphOf(t, paid{a, 5})
	worstIs(t, "one", g, tx.ID(a))
	g.Remove(tx.ID(a))
	worstIs(t, "an emptied graph", g)
}

// A package may be the worst one though each of its transactions but the first pays more than others.
func TestWorstIsAWholePackage(t *testing.T) {
	a, c := pay(spot(0)), pay(spot(1))
	b := pay(tx.Point(a, 0))
	for _, e := range []struct {
		a, b, c int
		want    []api.Tx
	}{
		{0, 100, 60, []api.Tx{a, b}},
		{0, 119, 60, []api.Tx{a, b}},
		{0, 121, 60, []api.Tx{c}},
		{40, 79, 60, []api.Tx{a, b}},
		{40, 81, 60, []api.Tx{c}},
		{60, 59, 60, []api.Tx{b}},
		{61, 60, 59, []api.Tx{c}},
	} {
		orders([]paid{{a, e.a}, {b, e.b}, {c, e.c}}, func(order []paid) {
			worstIs(t, "three", graphOf(t, order...), inOrder(order, e.want...)...)
		})
	}
}

// Of equal packages, the one of the last transaction is the worst, whatever its id is and whatever it consists of.
func TestWorstOfEqualPackages(t *testing.T) {
	var list []paid
	for _, a := range side(4) {
		list = append(list, paid{a, 7})
	}
	orders(list, func(order []paid) {
		g := graphOf(t, order...)
		worstIs(t, "four equal ones", g, tx.ID(order[3].Tx))
		shrinkIs(t, "four equal ones", g, 1, order[3].Tx, order[2].Tx, order[1].Tx)
	})
	family := row(spot(0), 3)
	a, b, c := family[0], family[1], family[2]
	for _, fee := range []int{0, 9, api.MaxMoney / 3} {
		orders([]paid{{a, fee}, {b, fee}, {c, fee}}, func(order []paid) {
			want := map[api.Hash][]api.Hash{tx.ID(a): inOrder(order, a, b, c), tx.ID(b): inOrder(order, b, c), tx.ID(c): inOrder(order, c)}
			worstIs(t, "a family with one rate", graphOf(t, order...), want[tx.ID(order[2].Tx)]...)
		})
	}
}

// Rates are equal if they are in proportion; the place of a transaction counts, not the one of a descendant.
func TestWorstOfEqualRates(t *testing.T) {
	a, c := pay(spot(0)), making(7, spot(1), spot(2))
	b := making(3, tx.Point(a, 0))
	fees := []int{3 * tx.Weight(a), 3 * tx.Weight(b), 3 * tx.Weight(c)}
	orders([]paid{{a, fees[0]}, {b, fees[1]}, {c, fees[2]}}, func(order []paid) {
		want := []api.Hash{tx.ID(order[2].Tx)}
		if want[0] == tx.ID(a) {
			want = inOrder(order, a, b)
		}
		worstIs(t, "three in proportion", graphOf(t, order...), want...)
	})
	// c is behind a, but before a's child, whose own package pays more.
	orders([]paid{{a, 0}, {b, fees[0] + fees[1]}, {c, fees[2]}}, func(order []paid) {
		want := inOrder(order, a, b)
		if places := inOrder(order, a, c); places[1] == tx.ID(c) {
			want = inOrder(order, c)
		}
		worstIs(t, "a family and one in proportion", graphOf(t, order...), want...)
	})
}

// It's the rate that counts, not the fee, and it's held against others exactly.
func TestWorstByRates(t *testing.T) {
	light, heavy := pay(spot(0)), making(8, spot(1), spot(2), spot(3))
	l, h := tx.Weight(light), tx.Weight(heavy)
	for _, e := range []struct {
		light, heavy int
		want         api.Tx
	}{
		{l, h + 1, light},
		{l, h - 1, heavy},
		{l + 1, h, heavy},
		{l - 1, h, light},
		{l, l + 1, heavy},
		{0, 1, light},
		{1, 0, heavy},
		{api.MaxMoney - api.MaxMoney%h, api.MaxMoney, heavy},
		{api.MaxMoney / h * l, api.MaxMoney / h * h, api.Tx{}},
		{api.MaxMoney/h*l + 1, api.MaxMoney / h * h, heavy},
		{api.MaxMoney/h*l - 1, api.MaxMoney / h * h, light},
	} {
		for _, order := range [][]paid{{{light, e.light}, {heavy, e.heavy}}, {{heavy, e.heavy}, {light, e.light}}} {
			want := e.want
			if len(want.Spends) == 0 {
				want = order[1].Tx
			}
			worstIs(t, "a light and a heavy one", graphOf(t, order...), tx.ID(want))
		}
	}
	near := side(2)
	orders([]paid{{near[0], api.MaxMoney - 1}, {near[1], api.MaxMoney}}, func(order []paid) {
		worstIs(t, "the two greatest fees", graphOf(t, order...), tx.ID(near[0]))
	})
}

// Rates as near as they can be are still different.
func TestWorstOfNearRates(t *testing.T) {
	light, heavy := making(3, spot(0)), making(8, spot(1), spot(2), spot(3))
	light.Spends[0].Key = "kk"
	l, h := tx.Weight(light), tx.Weight(heavy)
	for _, by := range []int{-1, 1} {
		// The products of each fee and the other weight shall be different by 1.
		fee := api.MaxMoney
		for (fee*l+by)%h != 0 {
			if fee--; fee < api.MaxMoney-h {
				t.Fatalf("the weights %d and %d have a common divisor", l, h)
			}
		}
		want := map[int]api.Tx{-1: light, 1: heavy}[by]
		orders([]paid{{light, (fee*l + by) / h}, {heavy, fee}}, func(order []paid) {
			worstIs(t, "two near rates", graphOf(t, order...), tx.ID(want))
		})
	}
}

// Great fees times great weights are more than a number can hold.
func TestWorstOfGreatProducts(t *testing.T) {
	for n := 3; n <= 30; n++ {
		family, p := []api.Tx(nil), spot(0)
		for range n {
			a := making(8, p)
			family, p = append(family, a), tx.Point(a, 7)
		}
		other := pay(spot(1))
		list := []paid{{other, api.MaxMoney}}
		for i, a := range family {
			list = append(list, paid{a, i / (n - 1)})
		}
		worstIs(t, "a heavy family and a great fee", graphOf(t, list...), idsOf(family...)...)
		list = append(list[1:], list[0])
		worstIs(t, "a heavy family and a great fee", graphOf(t, list...), idsOf(family...)...)
	}
}

// What descends from one in two ways counts once.
func TestWorstWithTwoWays(t *testing.T) {
	a, e := pay(spot(0)), pay(spot(1))
	b, c := pay(tx.Point(a, 0)), pay(tx.Point(a, 1))
	d := pay(tx.Point(b, 0), tx.Point(c, 0))
	all := tx.Weight(a) + tx.Weight(b) + tx.Weight(c) + tx.Weight(d)
	other := tx.Weight(e)
	orders([]paid{{a, 0}, {b, 0}, {c, 0}, {d, all}, {e, other + 1}}, func(order []paid) {
		worstIs(t, "two ways", graphOf(t, order...), inOrder(order, a, b, c, d)...)
	})
	orders([]paid{{a, 0}, {b, 0}, {c, 0}, {d, all}, {e, other - 1}}, func(order []paid) {
		worstIs(t, "two ways", graphOf(t, order...), tx.ID(e))
	})
}

// Ancestors don't count.
func TestWorstWithoutAncestors(t *testing.T) {
	a, c := pay(spot(0)), pay(spot(1))
	b := pay(tx.Point(a, 0))
	orders([]paid{{a, 0}, {b, 1000}, {c, 501}}, func(order []paid) {
		worstIs(t, "a child that pays for its parent", graphOf(t, order...), inOrder(order, a, b)...)
	})
	orders([]paid{{a, 1000}, {b, 10}, {c, 11}}, func(order []paid) {
		worstIs(t, "a parent that pays for its child", graphOf(t, order...), tx.ID(b))
	})
}

// A package whose fees are too great for a rate is never the worst one, in whatever place.
func TestWorstBeyondRates(t *testing.T) {
	a, c := pay(spot(0)), pay(spot(1))
	b := pay(tx.Point(a, 0))
	half := api.MaxMoney / 2
	for _, e := range []struct {
		a, b, c int
		want    []api.Tx
	}{
		{half - 1, half + 1, api.MaxMoney, []api.Tx{a, b}}, // the sum is the greatest amount
		{half, half + 1, api.MaxMoney, []api.Tx{b}},        // and here greater by 1
		{half - 1, half + 2, api.MaxMoney, []api.Tx{b}},
		{api.MaxMoney, api.MaxMoney, api.MaxMoney - 1, []api.Tx{c}},
		{api.MaxMoney, api.MaxMoney - 1, api.MaxMoney, []api.Tx{b}},
		{1, api.MaxMoney, api.MaxMoney - 1, []api.Tx{c}},
		{api.MaxMoney, 1, 0, []api.Tx{c}},
		{api.MaxMoney, 1, 2, []api.Tx{b}},
	} {
		orders([]paid{{a, e.a}, {b, e.b}, {c, e.c}}, func(order []paid) {
			worstIs(t, "great fees", graphOf(t, order...), inOrder(order, e.want...)...)
		})
	}
	family := row(spot(0), 4)
	orders([]paid{{family[0], api.MaxMoney}, {family[1], api.MaxMoney}, {family[2], api.MaxMoney}, {family[3], api.MaxMoney}}, func(order []paid) {
		g := graphOf(t, order...)
		worstIs(t, "a family of the greatest fees", g, tx.ID(family[3]))
		shrinkIs(t, "a family of the greatest fees", g, 0, family[3], family[2], family[1], family[0])
	})
}

// A transaction that is no longer there doesn't count, nor does what descended from it alone.
func TestWorstBehindRemove(t *testing.T) {
	family := row(spot(0), 3)
	other := pay(spot(1))
	g := graphOf(t, paid{family[0], 30}, paid{family[1], 0}, paid{family[2], 45}, paid{other, 24})
	worstIs(t, "a family", g, idsOf(family[1:]...)...)
	g.Remove(tx.ID(family[1]))
	worstIs(t, "what is left of a family", g, tx.ID(other))
	puts(t, g, family[1], 0)
	worstIs(t, "a family whose middle came again", g, tx.ID(family[2]), tx.ID(family[1]))
}

// P17.1, P17.2: Shrink

func TestShrinkFails(t *testing.T) {
	g := graphOf(t, paid{pay(spot(0)), 5}, paid{pay(spot(1)), 6})
	for _, most := range []int{-1, -2, -100, math.MinInt} {
		shrinkFails(t, "a graph", g, most, api.ErrRange)
		shrinkFails(t, "an empty graph", graph.New(), most, api.ErrRange)
		shrinkFails(t, "no graph", nil, most, api.ErrRange)
	}
	for _, most := range []int{0, 1, 100, math.MaxInt} {
		shrinkFails(t, "no graph", nil, most, api.ErrNone)
	}
}

func TestShrinkOfFewEnough(t *testing.T) {
	for n := range 5 {
		g := graph.New()
		for i, a := range side(n) {
			puts(t, g, a, i)
		}
		for _, most := range []int{n, n + 1, 100, math.MaxInt} {
			shrinkIs(t, "few enough", g, most)
		}
	}
}

// As many go as must, the worst ones first.
func TestShrinkOneByOne(t *testing.T) {
	txs := side(8)
	fees := []int{4, 7, 0, 2, 6, 1, 5, 3}
	var list []paid
	byFees := make([]api.Tx, 8)
	for i, a := range txs {
		list, byFees[fees[i]] = append(list, paid{a, fees[i]}), a
	}
	for most := range 9 {
		shrinkIs(t, "eight of different fees", graphOf(t, list...), most, byFees[:8-most]...)
	}
}

// A package goes as a whole, even if fewer would be enough.
func TestShrinkOfPackages(t *testing.T) {
	family := row(spot(0), 4)
	other, last := pay(spot(1)), pay(spot(2))
	list := []paid{{other, 30}, {family[2], 2}, {family[0], 0}, {last, 40}, {family[3], 3}, {family[1], 1}}
	gone := []api.Tx{family[2], family[0], family[3], family[1]}
	for most, want := range map[int][]api.Tx{6: nil, 5: gone, 4: gone, 3: gone, 2: gone, 1: append(slices.Clone(gone), other), 0: append(slices.Clone(gone), other, last)} {
		shrinkIs(t, "a family and others", graphOf(t, list...), most, want...)
	}
}

// What is left when a package has gone is looked at anew.
func TestShrinkLooksAnew(t *testing.T) {
	a, c := pay(spot(0)), pay(spot(1))
	b := pay(tx.Point(a, 0))
	orders([]paid{{a, 10}, {b, 0}, {c, 8}}, func(order []paid) {
		shrinkIs(t, "a parent that pays more alone", graphOf(t, order...), 1, b, c)
		shrinkIs(t, "a parent that pays more alone", graphOf(t, order...), 0, b, c, a)
	})
	// The sum of a and b is too great for a rate until b has gone.
	orders([]paid{{a, api.MaxMoney - 2}, {b, 3}, {c, api.MaxMoney - 1}}, func(order []paid) {
		shrinkIs(t, "a parent beyond rates", graphOf(t, order...), 1, b, a)
	})
	parents := side(2)
	child := pay(tx.Point(parents[0], 0), tx.Point(parents[1], 0))
	orders([]paid{{parents[0], 10}, {parents[1], 20}, {child, 1000}}, func(order []paid) {
		shrinkIs(t, "two parents of one child", graphOf(t, order...), 1, txsInOrder(order, parents[0], child)...)
	})
}

// As many as a pool can hold, and more.
func TestShrinkOfMany(t *testing.T) {
	g := graph.New()
	var want []api.Tx
	for i, a := range side(3 * api.MaxPool) {
		puts(t, g, a, 1000+i)
		if i < 2*api.MaxPool {
			want = append(want, a)
		}
	}
	shrinkIs(t, "three times too many", g, api.MaxPool, want...)
	shrinkIs(t, "as many as there may be", g, api.MaxPool)
	if l, err := evict.Shrink(g, 0); len(l) != api.MaxPool || err != nil || g.Len() != 0 {
		t.Errorf("Shrink to 0 returns %d, %v and leaves %d", len(l), err, g.Len())
	}
}

// A long row goes at once if its first one pays nothing.
func TestShrinkOfALongRow(t *testing.T) {
	family := row(spot(0), 300)
	g := graph.New()
	for i, a := range family {
		puts(t, g, a, i)
	}
	shrinkIs(t, "a long row", g, 299, family...)
}

package graph_test

import (
	"math"
	"math/rand/v2"
	"slices"
	"testing"

	"gossamer/api"
	"gossamer/graph"
	"gossamer/tx"
)

// P14.1: Spender

func TestSpender(t *testing.T) {
	a := making(3, spot(0), spot(1))
	b := making(1, tx.Point(a, 0), spot(2), tx.Point(a, 2))
	g, _ := graphOf(t, b, a)
	A, B := tx.ID(a), tx.ID(b)
	for p, want := range map[api.Point]api.Hash{spot(0): A, spot(1): A, spot(2): B, {Tx: A, N: 0}: B, {Tx: A, N: 2}: B} {
		spenderIs(t, "a spent point", g, p, want, true)
		for _, n := range []int{-1, -p.N - 1, p.N + 3, p.N + 8, p.N + 1<<32, math.MaxInt, math.MinInt} {
			spenderIs(t, "another number", g, api.Point{Tx: p.Tx, N: n}, api.Hash{}, false)
		}
		for i := range p.Tx {
			other := p
			other.Tx[i]++
			spenderIs(t, "another digest", g, other, api.Hash{}, false)
		}
	}
	spenderIs(t, "a coin that isn't spent", g, api.Point{Tx: A, N: 1}, api.Hash{}, false)
	spenderIs(t, "the last one's coin", g, api.Point{Tx: B}, api.Hash{}, false)
	spenderIs(t, "no point", g, api.Point{}, api.Hash{}, false)
}

// P14.1: Coin

func TestCoin(t *testing.T) {
	for n := 1; n <= 8; n++ {
		a := making(n, spot(0))
		b := making(1, tx.Point(a, n-1))
		g, _ := graphOf(t, a, b)
		for i, c := range a.Coins {
			coinIs(t, "a coin, spent or not", g, tx.Point(a, i), c, true)
		}
		for _, i := range []int{-1, -n, math.MinInt, n, n + 1, 8, 9, 256, 1 << 32, 1<<32 + n - 1, math.MaxInt} {
			coinIs(t, "a number without a coin", g, tx.Point(a, i), api.Coin{}, false)
		}
		coinIs(t, "the coin of another one", g, spot(0), api.Coin{}, false)
		coinIs(t, "no point", g, api.Point{}, api.Coin{}, false)
		removeIs(t, "the parent", g, idsOf(a), []api.Tx{a})
		coinIs(t, "a coin that is spent, but isn't there", g, tx.Point(a, n-1), api.Coin{}, false)
		coinIs(t, "the child's coin", g, tx.Point(b, 0), b.Coins[0], true)
	}
}

// A coin without value and lock is a coin no less.
func TestZeroCoin(t *testing.T) {
	a := api.Tx{Spends: []api.Spend{{From: spot(0)}}, Coins: []api.Coin{{}, {}}}
	g, _ := graphOf(t, a)
	coinIs(t, "a zero coin", g, tx.Point(a, 1), api.Coin{}, true)
	coinIs(t, "no coin", g, tx.Point(a, 2), api.Coin{}, false)
}

// P14.1: Conflicts

func TestConflicts(t *testing.T) {
	txs := side(4)
	child := making(2, tx.Point(txs[1], 0), tx.Point(txs[2], 1))
	grandchild := making(1, tx.Point(child, 1))
	txs = append(txs, child, grandchild)
	ids := idsOf(txs...)
	g, m := graphOf(t, txs...)
	for name, e := range map[string]struct {
		tx   api.Tx
		want []api.Hash
	}{
		"free points":                        {making(1, spot(8), spot(9)), nil},
		"coins that aren't spent":            {making(1, tx.Point(txs[2], 0), tx.Point(child, 0), tx.Point(grandchild, 0)), nil},
		"one point":                          {making(1, spot(2)), ids[2:3]},
		"one among others":                   {making(1, spot(8), spot(1), spot(9)), ids[1:2]},
		"the order of insertion":             {making(1, spot(3), tx.Point(child, 1), spot(0), tx.Point(txs[2], 1)), []api.Hash{ids[0], ids[3], ids[4], ids[5]}},
		"a coin that the child spends":       {making(1, tx.Point(txs[1], 0)), ids[4:5]},
		"two points of one":                  {making(1, tx.Point(txs[2], 1), tx.Point(txs[1], 0)), ids[4:5]},
		"one and its child":                  {making(1, tx.Point(txs[1], 0), spot(1)), []api.Hash{ids[1], ids[4]}},
		"one that is there":                  {txs[2], nil},
		"one with children":                  {txs[1], nil},
		"another witness of one there":       {twin(child), nil},
		"no spends":                          {making(1), nil},
		"nothing":                            {api.Tx{}, nil},
		"no coins":                           {making(0, spot(1)), ids[1:2]},
		"too many coins":                     {making(20, spot(1)), ids[1:2]},
		"a point twice":                      {making(1, spot(3), spot(3), spot(1), spot(3)), []api.Hash{ids[1], ids[3]}},
		"too many spends":                    {making(1, spot(20), spot(21), spot(22), spot(23), spot(24), spot(25), spot(26), spot(27), spot(3)), ids[3:4]},
		"a number that is no coin's":         {making(1, tx.Point(txs[1], -1), tx.Point(txs[1], 1<<32)), nil},
		"a number of more than its size":     {making(1, api.Point{Tx: spot(3).Tx, N: 3 + 1<<32}), nil},
		"a parent's point and a free one":    {making(1, spot(2), spot(30)), ids[2:3]},
		"other coins of the same point":      {making(5, spot(0)), ids[:1]},
		"the same but firm":                  {api.Tx{Spends: txs[0].Spends, Coins: txs[0].Coins, Firm: true}, ids[:1]},
		"all points of all, but another one": {making(8, spot(0), spot(1), spot(2), spot(3), tx.Point(txs[1], 0), tx.Point(child, 1)), ids},
	} {
		listIs(t, name+": Conflicts", g.Conflicts(e.tx), e.want)
	}
	graphIs(t, "Conflicts", g, m)
}

// A transaction itself isn't one of its conflicts, even if it is given with the points of others.
func TestConflictsWithOthersOfTheSameID(t *testing.T) {
	// The base covers the low bytes of a number alone.
	wide := making(1, spot(1), api.Point{Tx: spot(3).Tx, N: 3 + 1<<32})
	same := making(1, spot(1), spot(3))
	if tx.ID(wide) != tx.ID(same) {
		t.Fatal("the ids differ")
	}
	g, _ := graphOf(t, same)
	listIs(t, "the same id: Conflicts", g.Conflicts(wide), nil)
	g, _ = graphOf(t, side(4)...)
	listIs(t, "a number of more than its size: Conflicts", g.Conflicts(wide), idsOf(side(4)[1]))
}

// P14.1: Parents, Children, Ancestors and Descendants

func TestFamily(t *testing.T) {
	a := making(3, spot(0))
	b := making(2, tx.Point(a, 0))
	c := making(2, tx.Point(a, 2), spot(1))
	d := making(1, tx.Point(c, 1), tx.Point(b, 0), tx.Point(b, 1))
	e := making(1, tx.Point(a, 1), tx.Point(d, 0))
	f := making(1, spot(2))
	A, B, C, D, E, F := tx.ID(a), tx.ID(b), tx.ID(c), tx.ID(d), tx.ID(e), tx.ID(f)
	list := func(ids ...api.Hash) []api.Hash { return ids }
	g, _ := graphOf(t, f, e, b, a, d, c)
	for _, x := range []struct {
		id                                        api.Hash
		parents, children, ancestors, descendants []api.Hash
	}{
		{A, nil, list(E, B, C), list(A), list(E, B, A, D, C)},
		{B, list(A), list(D), list(B, A), list(E, B, D)},
		{C, list(A), list(D), list(A, C), list(E, D, C)},
		{D, list(B, C), list(E), list(B, A, D, C), list(E, D)},
		{E, list(A, D), nil, list(E, B, A, D, C), list(E)},
		{F, nil, nil, list(F), list(F)},
		{spot(0).Tx, nil, nil, nil, nil},
		{api.Hash{}, nil, nil, nil, nil},
	} {
		listIs(t, "Parents", g.Parents(x.id), x.parents)
		listIs(t, "Children", g.Children(x.id), x.children)
		listIs(t, "Ancestors", g.Ancestors(x.id), x.ancestors)
		listIs(t, "Descendants", g.Descendants(x.id), x.descendants)
	}
	listIs(t, "Ancestors of none", g.Ancestors(), nil)
	listIs(t, "Ancestors of two", g.Ancestors(B, F), list(F, B, A))
	listIs(t, "Ancestors of one and its ancestor", g.Ancestors(A, D), list(B, A, D, C))
	listIs(t, "Ancestors of one twice", g.Ancestors(C, C), list(A, C))
	listIs(t, "Ancestors of one and others", g.Ancestors(hash(1), C, api.Hash{}, F), list(F, A, C))
	listIs(t, "Ancestors of others", g.Ancestors(hash(1), api.Hash{}), nil)
	listIs(t, "Ancestors of all", g.Ancestors(A, B, C, D, E, F), list(F, E, B, A, D, C))
	listIs(t, "Descendants of none", g.Descendants(), nil)
	listIs(t, "Descendants of two", g.Descendants(C, F), list(F, E, D, C))
	listIs(t, "Descendants of one and its descendant", g.Descendants(E, B), list(E, B, D))
	listIs(t, "Descendants of one twice", g.Descendants(C, C), list(E, D, C))
	listIs(t, "Descendants of one and others", g.Descendants(hash(1), B, api.Hash{}), list(E, B, D))
	listIs(t, "Descendants of others", g.Descendants(hash(1), api.Hash{}), nil)
	listIs(t, "Descendants of all", g.Descendants(F, E, D, C, B, A), list(F, E, B, A, D, C))
}

// The chapter's example, and what comes next.
func TestFamilyBehindRemove(t *testing.T) {
	txs := row(spot(0), 5)
	ids := idsOf(txs...)
	g, _ := graphOf(t, txs...)
	removeIs(t, "the first one", g, ids[:1], txs[:1])
	getIs(t, "the child", g, ids[1], txs[1], true)
	listIs(t, "Parents of the child", g.Parents(ids[1]), nil)
	listIs(t, "Ancestors of the child", g.Ancestors(ids[1]), ids[1:2])
	removeIs(t, "the middle", g, ids[2:3], txs[2:3])
	listIs(t, "Descendants across the gap", g.Descendants(ids[1]), ids[1:2])
	listIs(t, "Ancestors across the gap", g.Ancestors(ids[4]), ids[3:])
	listIs(t, "Children of the removed", g.Children(ids[2]), nil)
	listIs(t, "Ancestors of the removed", g.Ancestors(ids[2]), nil)
	puts(t, "the middle again", g, txs[2], 5)
	listIs(t, "Children of the one again", g.Children(ids[2]), ids[3:4])
	listIs(t, "Parents of the one again", g.Parents(ids[2]), ids[1:2])
	want := []api.Hash{ids[1], ids[3], ids[4], ids[2]}
	listIs(t, "Ancestors across the filled gap", g.Ancestors(ids[4]), want)
	listIs(t, "Descendants across the filled gap", g.Descendants(ids[1]), want)
}

// Whatever the order of insertion, families are the same, and listed in that order.
func TestFamilyInAnyOrder(t *testing.T) {
	txs := append(row(spot(0), 5), side(9)[8])
	first, last, stranger := tx.ID(txs[0]), tx.ID(txs[4]), tx.ID(txs[5])
	r := rand.New(rand.NewPCG(14, 1))
	for range 60 {
		order := slices.Clone(txs)
		r.Shuffle(len(order), func(i, j int) { order[i], order[j] = order[j], order[i] })
		g, m := graphOf(t, order...)
		graphIs(t, "some order", g, m)
		want := slices.DeleteFunc(idsOf(order...), func(id api.Hash) bool { return id == stranger })
		listIs(t, "Ancestors in some order", g.Ancestors(last), want)
		listIs(t, "Descendants in some order", g.Descendants(first), want)
	}
}

// Whoever spends a number of which a transaction has no coin isn't its child.
func TestSpendsOfNoCoins(t *testing.T) {
	a := making(3, spot(0))
	for n := range 8 {
		b := making(1, tx.Point(a, n))
		for _, order := range [][]api.Tx{{a, b}, {b, a}} {
			g, m := graphOf(t, order...)
			graphIs(t, "a number of a coin or of none", g, m)
			var parents, children []api.Hash
			if n < 3 {
				parents, children = idsOf(a), idsOf(b)
			}
			listIs(t, "Parents", g.Parents(tx.ID(b)), parents)
			listIs(t, "Children", g.Children(tx.ID(a)), children)
			spenderIs(t, "a number of a coin or of none", g, tx.Point(a, n), tx.ID(b), true)
			listIs(t, "Conflicts", g.Conflicts(making(2, tx.Point(a, n))), idsOf(b))
		}
	}
}

// As many parents and children as there can be, and as few for as many coins.
func TestGreatFamilies(t *testing.T) {
	parents := side(8)
	var points []api.Point
	for _, a := range parents {
		points = append(points, tx.Point(a, 0))
	}
	slices.Reverse(points)
	middle := making(8, points...)
	var children []api.Tx
	for i := range 8 {
		children = append(children, making(1, tx.Point(middle, 7-i)))
	}
	g, m := graphOf(t, slices.Concat(parents, children, []api.Tx{middle})...)
	graphIs(t, "8 parents and 8 children", g, m)
	listIs(t, "8 parents", g.Parents(tx.ID(middle)), idsOf(parents...))
	listIs(t, "8 children", g.Children(tx.ID(middle)), idsOf(children...))

	one := making(8, spot(30))
	points = nil
	for i := range 8 {
		points = append(points, tx.Point(one, i))
	}
	other := making(1, points...)
	g, m = graphOf(t, one, other)
	graphIs(t, "8 coins of one parent", g, m)
	listIs(t, "8 coins of one parent", g.Parents(tx.ID(other)), idsOf(one))
	listIs(t, "8 coins for one child", g.Children(tx.ID(one)), idsOf(other))
}

// A family is found however far it reaches.
func TestLongRow(t *testing.T) {
	txs := row(spot(0), 5000)
	r := rand.New(rand.NewPCG(14, 2))
	order := slices.Clone(txs)
	r.Shuffle(len(order), func(i, j int) { order[i], order[j] = order[j], order[i] })
	g := graph.New()
	for _, a := range order {
		puts(t, "one of a row", g, a, 1)
	}
	ids := idsOf(order...)
	listIs(t, "Ancestors of the last one", g.Ancestors(tx.ID(txs[4999])), ids)
	listIs(t, "Descendants of the first one", g.Descendants(tx.ID(txs[0])), ids)
	if n := len(g.Ancestors(tx.ID(txs[1999]))); n != 2000 {
		t.Errorf("the ancestors of the 2000th one of a row are %d", n)
	}
	if n := len(g.Descendants(tx.ID(txs[4000]))); n != 1000 {
		t.Errorf("the descendants of the last but 999 of a row are %d", n)
	}
}

// A family of 120 is found at once, though there are 2^60 ways through it.
func TestManyWays(t *testing.T) {
	left, right := making(2, spot(0)), making(2, spot(1))
	txs := []api.Tx{left, right}
	for range 59 {
		left, right = making(2, tx.Point(left, 0), tx.Point(right, 0)), making(2, tx.Point(left, 1), tx.Point(right, 1))
		txs = append(txs, left, right)
	}
	g, _ := graphOf(t, txs...)
	ids := idsOf(txs...)
	listIs(t, "Ancestors of the last ones", g.Ancestors(ids[118], ids[119]), ids)
	listIs(t, "Ancestors of the last one", g.Ancestors(ids[119]), slices.Delete(slices.Clone(ids), 118, 119))
	listIs(t, "Descendants of the first one", g.Descendants(ids[0]), slices.Delete(slices.Clone(ids), 1, 2))
}

// P14.2

func TestAncestorsAndDescendantsAgree(t *testing.T) {
	w := world{Rand: rand.New(rand.NewPCG(14, 3))}
	alone, long := 0, 0
	for range 40 {
		w.txs = nil
		for range 40 {
			w.make()
		}
		g := graph.New()
		for _, i := range w.Perm(len(w.txs)) {
			g.Put(w.txs[i], i)
		}
		ids := g.IDs()
		for range w.IntN(5) {
			g.Remove(ids[w.IntN(len(ids))])
		}
		ids = g.IDs()
		for _, a := range ids {
			ancestors := g.Ancestors(a)
			if !slices.Contains(ancestors, a) || !slices.Contains(g.Descendants(a), a) {
				t.Errorf("%x isn't one of its own ancestors and descendants", a)
			}
			for _, b := range ids {
				if slices.Contains(ancestors, b) != slices.Contains(g.Descendants(b), a) {
					t.Errorf("of %x and %x, one is an ancestor, but the other isn't a descendant, or the reverse", b, a)
				}
			}
			if (len(ancestors) == 1) != (len(g.Parents(a)) == 0) {
				t.Errorf("%x has %d ancestors and the parents %x", a, len(ancestors), g.Parents(a))
			}
			if len(ancestors) == 1 {
				alone++
			}
			if len(ancestors) > 5 {
				long++
			}
		}
	}
	if alone < 100 || long < 100 {
		t.Errorf("%d have no parents and %d have many ancestors, too few for a test", alone, long)
	}
}

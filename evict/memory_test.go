package evict_test

import (
	"slices"
	"testing"

	"gossamer/api"
	"gossamer/evict"
	"gossamer/graph"
	"gossamer/tx"
)

// fill overwrites all elements up to the capacity.
func fill[E any](list []E, with E) {
	for i := range list[:cap(list)] {
		list[:cap(list)][i] = with
	}
}

// spoil overwrites all that a transaction's lists hold, up to their capacity.
func spoil(a api.Tx) {
	fill(a.Spends, api.Spend{From: api.Point{Tx: hash(0x55), N: 5}, Key: "spoilt", Seal: 0x55})
	fill(a.Coins, api.Coin{Value: 0x55, Lock: 0x55})
}

// clan are transactions of which some are related, the children of some ahead of them, with their fees.
func clan() []paid {
	txs := row(spot(0), 4)
	last := making(4, tx.Point(txs[3], 0), spot(5), spot(6))
	var list []paid
	for i, a := range slices.Concat(txs[2:], []api.Tx{last}, side(5)[1:3], txs[:2], []api.Tx{making(1, tx.Point(last, 0), tx.Point(last, 2))}) {
		list = append(list, paid{a, 50 * (i % 3)})
	}
	return list
}

// clanAges is a table of the clan in which every second one is old before 5.
func clanAges(t *testing.T) *evict.Ages {
	t.Helper()
	a := evict.NewAges()
	for i, b := range clan() {
		came(t, a, 3+i%2*4, tx.ID(b.Tx))
	}
	came(t, a, 2, hash(1), hash(2))
	return a
}

// P17.3: arguments are neither modified nor retained

func TestGoneLeavesItsIDs(t *testing.T) {
	list := []api.Hash{hash(2), hash(9), hash(1), hash(2), hash(3), hash(4)}
	for n := range len(list) + 1 {
		a := evict.NewAges()
		came(t, a, 3, hash(1), hash(2), hash(3), hash(5))
		want := bookOf(a).without(list[:n]...)
		given := slices.Clone(list)
		a.Gone(given[:n]...)
		if !slices.Equal(given, list) {
			t.Errorf("Gone of %d ids changed them: %x, want %x", n, given, list)
		}
		fill(given, hash(5))
		agesIs(t, "a change of the argument of Gone", a, want)
	}
}

// What Worst returns is new, and follows nothing.
func TestWorstReturnsNewMemory(t *testing.T) {
	family := row(spot(0), 3)
	g := graphOf(t, paid{family[0], 0}, paid{family[1], 1}, paid{family[2], 2})
	was := stateOf(g)
	one, _ := evict.Worst(g)
	two, _ := evict.Worst(g)
	want := slices.Clone(one)
	if len(want) != 3 {
		t.Fatalf("the worst package is %x", want)
	}
	fill(one, hash(0x55))
	if !slices.Equal(two, want) {
		t.Errorf("a change of what Worst returned shows in another result: %x, want %x", two, want)
	}
	stateIs(t, "a change of what Worst returned", g, was)
	worstIs(t, "the same graph", g, want...)
	g.Remove(g.IDs()...)
	if !slices.Equal(two, want) {
		t.Errorf("what Worst returned follows the graph: %x, want %x", two, want)
	}
}

func TestOldReturnsNewMemory(t *testing.T) {
	a := clanAges(t)
	want := bookOf(a)
	one, two := a.Old(8), a.Old(8)
	fill(one, hash(0x55))
	if !slices.Equal(two, want.old(8)) {
		t.Errorf("a change of what Old returned shows in another result: %x, want %x", two, want.old(8))
	}
	agesIs(t, "a change of what Old returned", a, want)
	came(t, a, 0, two[3], hash(0x77))
	a.Gone(two[1])
	if !slices.Equal(two, want.old(8)) {
		t.Errorf("what Old returned follows the table: %x, want %x", two, want.old(8))
	}
}

// removals are calls that remove transactions.
func removals(t *testing.T) map[string]func(g *graph.Graph) []api.Tx {
	t.Helper()
	return map[string]func(g *graph.Graph) []api.Tx{
		"Shrink to 4": func(g *graph.Graph) []api.Tx { l, _ := evict.Shrink(g, 4); return l },
		"Shrink to 0": func(g *graph.Graph) []api.Tx { l, _ := evict.Shrink(g, 0); return l },
		"Expire":      func(g *graph.Graph) []api.Tx { return clanAges(t).Expire(g, 5) },
	}
}

// What was removed shares nothing with copies of the graph, nor with what is put there again.
func TestRemovedIsNewMemory(t *testing.T) {
	for name, remove := range removals(t) {
		g := graphOf(t, clan()...)
		before := g.Copy()
		was := stateOf(g)
		gone := remove(g)
		want := cloneAll(gone)
		if len(want) < 4 {
			t.Fatalf("behind %s, %d are gone, too few for a test", name, len(want))
		}
		left := stateOf(g)
		for _, a := range gone {
			puts(t, g, a, 1)
		}
		for _, a := range gone {
			spoil(a)
		}
		stateIs(t, "a change of what "+name+" returned, on a copy of before", before, was)
		g.Remove(left.ids...)
		if got := g.Remove(g.IDs()...); !equal(got, want) {
			t.Errorf("a change of what %s returned shows in the graph: %v, want %v", name, got, want)
		}
		if again := remove(before); !equal(again, want) {
			t.Errorf("%s of a copy is %v, want %v", name, again, want)
		}
		fill(gone, api.Tx{})
		stateIs(t, name+" of a copy", before, left)
	}
}

// No two lists of what was removed share memory, nor does one reach into another's by its spare capacity.
func TestRemovedIsApart(t *testing.T) {
	for name, remove := range removals(t) {
		n := len(remove(graphOf(t, clan()...)))
		for i := range n {
			got := remove(graphOf(t, clan()...))
			want := cloneAll(got)
			fill(got[i].Spends, api.Spend{Key: "spoilt"})
			fill(want[i].Spends, api.Spend{Key: "spoilt"})
			if !equal(got, want) {
				t.Errorf("%s: a change of the spends of %d is %v, want %v", name, i, got, want)
			}
			fill(got[i].Coins, api.Coin{Value: 55})
			fill(want[i].Coins, api.Coin{Value: 55})
			if !equal(got, want) {
				t.Errorf("%s: a change of the coins of %d is %v, want %v", name, i, got, want)
			}
		}
	}
}

// Only the graph that is given changes.
func TestCopiesOfTheGraphStay(t *testing.T) {
	for name, remove := range removals(t) {
		g := graphOf(t, clan()...)
		one, was := g.Copy(), stateOf(g)
		two := one.Copy()
		gone := idsOf(remove(one)...)
		stateIs(t, name+" of a copy", g, was)
		stateIs(t, name+" of a copy", two, was)
		goneIs(t, name, g, one, gone)
	}
}

// P17.1, P17.3: Copy

func TestCopiesOfAgesAreIndependent(t *testing.T) {
	a := clanAges(t)
	was := bookOf(a)
	one := a.Copy()
	two := one.Copy()
	if one == a || two == one {
		t.Fatal("a copy is the table itself")
	}
	agesIs(t, "Copy", one, was)
	agesIs(t, "Copy of a copy", two, was)
	came(t, a, 1, hash(3), hash(1))
	agesIs(t, "Came on the table", one, was)
	one.Gone(hash(2))
	agesIs(t, "Gone on a copy", two, was)
	agesIs(t, "Came and Gone on another one", a, was.with(hash(3), 1).with(hash(1), 1))
	agesIs(t, "Gone", one, was.without(hash(2)))
	g := graphOf(t, clan()...)
	if gone := two.Expire(g, 5); len(gone) < 4 {
		t.Errorf("Expire on a copy removes %d", len(gone))
	}
	agesIs(t, "Expire on a copy", one, was.without(hash(2)))
	agesIs(t, "Expire on a copy", a, was.with(hash(3), 1).with(hash(1), 1))
}

func TestCopyOfEmptyAges(t *testing.T) {
	a := evict.NewAges()
	other := a.Copy()
	came(t, other, 3, hash(1))
	agesIs(t, "Came on the copy of an empty table", a, nil)
	came(t, a, 4, hash(1))
	agesIs(t, "Came on the table", other, book{{hash(1), 3}})
	a.Gone(hash(1))
	emptied := a.Copy()
	came(t, emptied, 5, hash(2))
	agesIs(t, "Came on the copy of an emptied table", a, nil)
	agesIs(t, "Came", emptied, book{{hash(2), 5}})
}

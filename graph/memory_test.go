package graph_test

import (
	"reflect"
	"slices"
	"testing"

	"gossamer/api"
	"gossamer/graph"
	"gossamer/tx"
)

// spared is an equal transaction whose lists have spare capacity with more spends and coins in it.
func spared(a api.Tx) api.Tx {
	spends := slices.Concat(a.Spends, []api.Spend{{Seal: 991}, {Seal: 992}})
	made := slices.Concat(a.Coins, []api.Coin{{Lock: 993}, {Lock: 994}})
	return api.Tx{Spends: spends[:len(a.Spends)], Coins: made[:len(a.Coins)], Firm: a.Firm}
}

// whole is a spared transaction with what its spare capacity holds.
func whole(a api.Tx) api.Tx {
	return api.Tx{Spends: a.Spends[:len(a.Spends)+2], Coins: a.Coins[:len(a.Coins)+2], Firm: a.Firm}
}

// fill overwrites all elements up to the capacity.
func fill[E any](list []E, with E) {
	for i := range list[:cap(list)] {
		list[:cap(list)][i] = with
	}
}

// spoil overwrites all that a transaction's lists hold, up to their capacity.
func spoil(a api.Tx) {
	fill(a.Spends, api.Spend{From: api.Point{Tx: hash(0x55), N: 5}, Key: "spoilt", Seal: 0x55})
	fill(a.Coins, api.Coin{Value: 0x55, Lock: 0x55})
}

// clan are transactions of which most are related, the children of some ahead of them.
func clan() []api.Tx {
	txs := row(spot(0), 4)
	last := making(4, tx.Point(txs[3], 0), spot(5), spot(6))
	return slices.Concat(txs[2:], []api.Tx{last}, side(5)[1:3], txs[:2], []api.Tx{making(1, tx.Point(last, 0), tx.Point(last, 2))})
}

// lists are the lists of ids that a graph returns, by the call.
func lists(g *graph.Graph) map[string]func() []api.Hash {
	ids := idsOf(clan()...)
	return map[string]func() []api.Hash{
		"IDs":         g.IDs,
		"Parents":     func() []api.Hash { return g.Parents(ids[7]) },
		"Children":    func() []api.Hash { return g.Children(ids[2]) },
		"Ancestors":   func() []api.Hash { return g.Ancestors(ids[2], ids[3]) },
		"Descendants": func() []api.Hash { return g.Descendants(ids[4], ids[0]) },
		"Conflicts":   func() []api.Hash { return g.Conflicts(making(3, spot(1), spot(0), spot(6))) },
	}
}

// P14.3: arguments aren't modified

func TestCallsLeaveTheirTransactions(t *testing.T) {
	txs := append(clan(), making(2, spot(6), spot(1), spot(30)))
	for _, e := range invalid() {
		txs = append(txs, e.tx)
	}
	g := graph.New()
	for _, a := range txs {
		given, want := spared(a), clone(whole(spared(a)))
		g.Conflicts(given)
		g.Put(given, 5)
		g.Put(given, 6)
		g.Put(given, -1)
		g.Conflicts(given)
		g.Remove(tx.ID(a))
		g.Put(given, 7)
		if !equal([]api.Tx{whole(given)}, []api.Tx{want}) {
			t.Errorf("an argument was changed: %v, want %v", whole(given), want)
		}
	}
}

func TestCallsLeaveTheirIDs(t *testing.T) {
	ids := idsOf(clan()...)
	for name, call := range map[string]func(g *graph.Graph, ids []api.Hash){
		"Remove":      func(g *graph.Graph, ids []api.Hash) { g.Remove(ids...) },
		"Rate":        func(g *graph.Graph, ids []api.Hash) { g.Rate(ids...) },
		"Ancestors":   func(g *graph.Graph, ids []api.Hash) { g.Ancestors(ids...) },
		"Descendants": func(g *graph.Graph, ids []api.Hash) { g.Descendants(ids...) },
	} {
		for _, list := range [][]api.Hash{
			{ids[7], ids[2], ids[2], ids[0], ids[5], hash(1), ids[3], hash(2)},
			{ids[5], ids[3], ids[5], ids[1], ids[6], ids[4]},
		} {
			for n := range len(list) + 1 {
				g, _ := graphOf(t, clan()...)
				given := slices.Clone(list)
				call(g, given[:n])
				if !slices.Equal(given, list) {
					t.Errorf("%s of %d ids changed them: %x, want %x", name, n, given, list)
				}
			}
		}
	}
}

// P14.3: arguments aren't retained

func TestPutKeepsNothing(t *testing.T) {
	g := graph.New()
	var m model
	var given []api.Tx
	for i, a := range clan() {
		given = append(given, spared(a))
		puts(t, "spare capacity", g, given[i], i)
		m = m.with(a, i)
	}
	for _, a := range given {
		spoil(a)
		graphIs(t, "a change of the argument of Put", g, m)
	}
	removeIs(t, "all", g, g.IDs(), clan())
}

func TestListsOfIDsAreNotKept(t *testing.T) {
	ids := idsOf(clan()...)
	for name, call := range map[string]func(g *graph.Graph, ids []api.Hash) []api.Hash{
		"Ancestors":   func(g *graph.Graph, ids []api.Hash) []api.Hash { return g.Ancestors(ids...) },
		"Descendants": func(g *graph.Graph, ids []api.Hash) []api.Hash { return g.Descendants(ids...) },
	} {
		for n := range len(ids) + 1 {
			g, m := graphOf(t, clan()...)
			given := slices.Clone(ids[:n])
			got := call(g, given)
			want := slices.Clone(got)
			fill(given, hash(0x55))
			if !slices.Equal(got, want) {
				t.Errorf("a change of the argument of %s shows in its result: %x", name, got)
			}
			given = slices.Clone(ids[:n])
			fill(call(g, given), hash(0x55))
			if !slices.Equal(given, ids[:n]) {
				t.Errorf("a change of the result of %s shows in its argument: %x", name, given)
			}
			graphIs(t, "changed lists", g, m)
		}
	}
}

// P14.3: results are newly allocated

func TestListsAreNewMemory(t *testing.T) {
	g, m := graphOf(t, clan()...)
	for name, call := range lists(g) {
		want := slices.Clone(call())
		if len(want) == 0 {
			t.Errorf("%s is empty", name)
		}
		one, two := call(), call()
		fill(one, hash(0x55))
		if !slices.Equal(two, want) || !slices.Equal(call(), want) {
			t.Errorf("a change of what %s returned shows in another result: %x", name, two)
		}
		_ = append(two[:len(two)-1], hash(0x55))
		graphIs(t, "a change of what "+name+" returned", g, m)
	}
}

func TestGetReturnsNewMemory(t *testing.T) {
	g, m := graphOf(t, clan()...)
	for _, a := range clan() {
		one, _ := g.Get(tx.ID(a))
		two, _ := g.Get(tx.ID(a))
		spoil(one)
		if !equal([]api.Tx{two}, []api.Tx{a}) {
			t.Errorf("a change of what Get returned shows in another result: %v", two)
		}
		graphIs(t, "a change of what Get returned", g, m)
	}
	for _, a := range clan() {
		got, _ := g.Get(tx.ID(a))
		g.Remove(tx.ID(a))
		if !equal([]api.Tx{got}, []api.Tx{a}) {
			t.Errorf("Remove shows in what Get returned: %v", got)
		}
	}
}

func TestRemoveReturnsNewMemory(t *testing.T) {
	g, m := graphOf(t, clan()...)
	other := g.Copy()
	ids := g.IDs()
	got := g.Remove(ids...)
	for _, a := range got[:cap(got)] {
		spoil(a)
	}
	fill(got, api.Tx{Firm: true})
	graphIs(t, "a change of what Remove returned, on a copy of before", other, m)
	again := other.Copy()
	removeIs(t, "all of a copy", other, ids, clan())
	removeIs(t, "all of a copy of the copy", again, ids, clan())
}

// No two lists of what Remove returns share memory, nor does one reach into another's by its spare capacity.
func TestListsOfRemoveAreApart(t *testing.T) {
	for i := range clan() {
		g, _ := graphOf(t, clan()...)
		got, want := g.Remove(g.IDs()...), clan()
		fill(got[i].Spends, api.Spend{Key: "spoilt"})
		fill(want[i].Spends, api.Spend{Key: "spoilt"})
		if !equal(got, want) {
			t.Errorf("a change of the spends of %d is %v, want %v", i, got, want)
		}
		fill(got[i].Coins, api.Coin{Value: 55})
		fill(want[i].Coins, api.Coin{Value: 55})
		if !equal(got, want) {
			t.Errorf("a change of the coins of %d is %v, want %v", i, got, want)
		}
	}
}

// P14.1, P14.3: Copy

func TestCopiesAreIndependent(t *testing.T) {
	g, m := graphOf(t, clan()...)
	ids := g.IDs()
	one := g.Copy()
	two := one.Copy()
	if one == g || two == one {
		t.Fatal("a copy is the graph itself")
	}
	graphIs(t, "a copy", one, m)
	graphIs(t, "a copy of a copy", two, m)
	more, other := making(3, spot(40)), making(2, spot(40), tx.Point(clan()[3], 0))
	puts(t, "one more", g, more, 5)
	withMore := m.with(more, 5)
	graphIs(t, "one more", g, withMore)
	graphIs(t, "one more on the graph", one, m)
	spenderIs(t, "a point that is spent on the graph alone", one, spot(40), api.Hash{}, false)
	puts(t, "another one on a copy", one, other, 6)
	graphIs(t, "another one on a copy", one, m.with(other, 6))
	graphIs(t, "another one on a copy", g, withMore)
	graphIs(t, "another one on a copy", two, m)
	removeIs(t, "some of the graph", g, ids[2:5], clan()[2:5])
	graphIs(t, "some removed from the graph", one, m.with(other, 6))
	graphIs(t, "some removed from the graph", two, m)
	removeIs(t, "others of a copy", two, ids[:2], clan()[:2])
	rest, _ := withMore.remove(ids[2:5]...)
	graphIs(t, "others removed from a copy", g, rest)
	// What comes next is the last one on each.
	for i, x := range []*graph.Graph{g, one, two} {
		last := making(1, spot(50+i))
		puts(t, "one more on each", x, last, 1)
		if all := x.IDs(); all[len(all)-1] != tx.ID(last) {
			t.Errorf("the last one of graph %d is %x, want %x", i, all[len(all)-1], tx.ID(last))
		}
	}
}

func TestCopyOfAnEmptyGraph(t *testing.T) {
	g := graph.New()
	other := g.Copy()
	a, b := making(1, spot(0)), making(2, spot(0))
	puts(t, "the copy of an empty graph", other, a, 1)
	graphIs(t, "an empty graph whose copy has one", g, nil)
	puts(t, "the empty graph", g, b, 2)
	graphIs(t, "the copy", other, model{}.with(a, 1))
	graphIs(t, "the graph", g, model{}.with(b, 2))
	emptied := g.Copy()
	removeIs(t, "all", emptied, idsOf(b), []api.Tx{b})
	if again := emptied.Copy(); !reflect.DeepEqual(again.IDs(), emptied.IDs()) || again.Len() != 0 {
		t.Errorf("the copy of an emptied graph has %d transactions", again.Len())
	}
	puts(t, "an emptied graph", emptied, a, 1)
	graphIs(t, "an emptied graph", emptied, model{}.with(a, 1))
}

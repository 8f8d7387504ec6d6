package evict_test

import (
	"math"
	"slices"
	"testing"

	"gossamer/api"
	"gossamer/evict"
	"gossamer/graph"
	"gossamer/tx"
)

// P17.1: NewAges, Came, Old and Len

func TestNewAges(t *testing.T) {
	a, other := evict.NewAges(), evict.NewAges()
	agesIs(t, "nothing", a, nil)
	came(t, a, 3, hash(1))
	agesIs(t, "an id of another table", other, nil)
	agesIs(t, "one id", a, book{{hash(1), 3}})
}

func TestCame(t *testing.T) {
	a := evict.NewAges()
	var want book
	for _, tick := range []int{5, 0, 1, 5, 1 << 31, 1 << 32, 1 << 62, math.MaxInt - 1} {
		for _, id := range []api.Hash{{}, hash(1), hash(0, 0, byte(tick)), {31: 1}} {
			came(t, a, tick, id)
			want = want.with(id, tick)
			agesIs(t, "one more id, or another tick", a, want)
		}
	}
	if a.Len() != 6 {
		t.Errorf("Len is %d", a.Len())
	}
}

// Nothing is below the least number, and everything but the greatest one is below that.
func TestOldAtTheBounds(t *testing.T) {
	a := evict.NewAges()
	came(t, a, 0, hash(1))
	came(t, a, math.MaxInt, hash(2))
	came(t, a, math.MaxInt-1, hash(3))
	for before, want := range map[int][]api.Hash{
		math.MinInt: nil, -1: nil, 0: nil, 1: {hash(1)}, math.MaxInt - 1: {hash(1)}, math.MaxInt: {hash(1), hash(3)},
	} {
		oldIs(t, "ids at the bounds", a, before, want...)
	}
	if a.Len() != 3 {
		t.Errorf("Len is %d", a.Len())
	}
}

func TestCameFails(t *testing.T) {
	a := evict.NewAges()
	for _, tick := range []int{-1, -2, -1 << 32, math.MinInt} {
		cameFails(t, a, hash(1), tick, api.ErrRange)
	}
	came(t, a, 4, hash(1))
	came(t, a, 2, hash(2))
	for _, tick := range []int{-1, -2, -1 << 32, math.MinInt} {
		cameFails(t, a, hash(1), tick, api.ErrRange)
		cameFails(t, a, hash(3), tick, api.ErrRange)
		cameFails(t, a, api.Hash{}, tick, api.ErrRange)
	}
}

// A later record of an id takes the place of the earlier one, whichever tick is the greater one.
func TestCameAgain(t *testing.T) {
	a := evict.NewAges()
	came(t, a, 4, hash(1))
	came(t, a, 6, hash(2))
	came(t, a, 8, hash(1))
	agesIs(t, "a later tick", a, book{{hash(2), 6}, {hash(1), 8}})
	came(t, a, 2, hash(1))
	agesIs(t, "an earlier tick", a, book{{hash(1), 2}, {hash(2), 6}})
	came(t, a, 2, hash(1))
	agesIs(t, "the same tick", a, book{{hash(1), 2}, {hash(2), 6}})
	came(t, a, 0, hash(2))
	agesIs(t, "the tick 0", a, book{{hash(2), 0}, {hash(1), 2}})
}

// Old ids are sorted by ticks, and those of one tick by their bytes, which have no sign.
func TestOldIsSorted(t *testing.T) {
	sorted := []api.Hash{{}, {31: 1}, {31: 0xff}, {30: 1}, {15: 9, 16: 1}, {15: 10}, hash(1), hash(1, 1), hash(1, 0x80), hash(2), hash(0x7f, 0xff), hash(0x80), hash(0xff), hash(0xff, 1)}
	n := len(sorted)
	for shift := range n {
		a := evict.NewAges()
		for i := range sorted {
			came(t, a, 7, sorted[(i*5+shift)%n])
		}
		oldIs(t, "ids of one tick", a, 7)
		oldIs(t, "ids of one tick", a, 8, sorted...)
	}
	a := evict.NewAges()
	for i, id := range sorted {
		came(t, a, 100-i, id)
	}
	reversed := slices.Clone(sorted)
	slices.Reverse(reversed)
	oldIs(t, "ids of different ticks", a, 101, reversed...)
	for i := range sorted {
		oldIs(t, "ids of different ticks", a, 100-i, reversed[:n-1-i]...)
	}
	for i, id := range sorted {
		came(t, a, i%2, id)
	}
	var even, odd []api.Hash
	for i := 0; i < n; i += 2 {
		even, odd = append(even, sorted[i]), append(odd, sorted[i+1])
	}
	oldIs(t, "ids of two ticks", a, 1, even...)
	oldIs(t, "ids of two ticks", a, 2, append(even, odd...)...)
}

// P17.1: Gone

func TestGone(t *testing.T) {
	a := evict.NewAges()
	var want book
	for i := range 6 {
		came(t, a, i/2, hash(byte(i)))
		want = want.with(hash(byte(i)), i/2)
	}
	for _, ids := range [][]api.Hash{
		nil, {}, {hash(9)}, {{31: 1}, hash(0, 1)}, {hash(2)}, {hash(2)}, {hash(5), hash(9), hash(5), hash(4)}, {hash(0)},
	} {
		a.Gone(ids...)
		want = want.without(ids...)
		agesIs(t, "Gone", a, want)
	}
	came(t, a, 9, hash(2))
	agesIs(t, "an id that came again", a, want.with(hash(2), 9))
	a.Gone(hash(1), hash(2), hash(3))
	agesIs(t, "Gone of all", a, nil)
	a.Gone(hash(1))
	agesIs(t, "Gone of none", a, nil)
}

// P17.1: no table

func TestNoAges(t *testing.T) {
	var a *evict.Ages
	for _, tick := range []int{0, 1, math.MaxInt, -1, math.MinInt} {
		if err := a.Came(hash(1), tick); err != api.ErrNone {
			t.Errorf("of no table, Came at %d is %v", tick, err)
		}
	}
	a.Gone()
	a.Gone(hash(1), hash(2))
	for _, before := range []int{math.MinInt, 0, 1, math.MaxInt} {
		if l := a.Old(before); len(l) > 0 {
			t.Errorf("of no table, Old of %d is %x", before, l)
		}
		g := graphOf(t, paid{pay(spot(0)), 5})
		was := stateOf(g)
		if l := a.Expire(g, before); len(l) > 0 {
			t.Errorf("of no table, Expire is %v", l)
		}
		stateIs(t, "Expire of no table", g, was)
		if l := a.Expire(nil, before); len(l) > 0 {
			t.Errorf("of no table and no graph, Expire is %v", l)
		}
	}
	if a.Len() != 0 || a.Copy() != nil {
		t.Errorf("of no table, Len is %d and Copy %v", a.Len(), a.Copy())
	}
}

// P17.1, P17.2: Expire

// What is old goes with its descendants, which may be young or have no record at all; the others stay.
func TestExpire(t *testing.T) {
	family, other := row(spot(0), 4), row(spot(1), 2)
	ids, others := idsOf(family...), idsOf(other...)
	order := []paid{{other[1], 1}, {family[2], 2}, {family[0], 3}, {family[3], 4}, {other[0], 5}, {family[1], 6}}
	fill := func() (*graph.Graph, *evict.Ages, book) {
		a := evict.NewAges()
		came(t, a, 9, ids[0], others[0], hash(1))
		came(t, a, 4, ids[1], hash(2))
		came(t, a, 7, ids[2], hash(3))
		came(t, a, 6, others[1])
		return graphOf(t, order...), a, bookOf(a)
	}
	down := []api.Tx{family[2], family[3], family[1]}
	for _, e := range []struct {
		before int
		want   []api.Tx
	}{
		{math.MinInt, nil}, {-1, nil}, {0, nil}, {4, nil}, {5, down}, {6, down},
		{7, []api.Tx{other[1], family[2], family[3], family[1]}},
		{9, []api.Tx{other[1], family[2], family[3], family[1]}},
		{10, []api.Tx{other[1], family[2], family[0], family[3], other[0], family[1]}},
		{math.MaxInt, []api.Tx{other[1], family[2], family[0], family[3], other[0], family[1]}},
	} {
		g, a, b := fill()
		expireIs(t, "two families", a, g, b, e.before, e.want...)
		expireIs(t, "two families", a, g, bookOf(a), e.before)
	}
	g, a, b := fill()
	expireIs(t, "two families", a, g, b, 5, down...)
	agesIs(t, "Expire", a, book{}.with(others[1], 6).with(hash(3), 7).with(ids[0], 9).with(others[0], 9).with(hash(1), 9))
	expireIs(t, "what is left", a, g, bookOf(a), 8, other[1])
	expireIs(t, "what is left", a, g, bookOf(a), 100, family[0], other[0])
	if a.Len() != 0 || g.Len() != 0 {
		t.Errorf("%d ids and %d transactions are left", a.Len(), g.Len())
	}
}

// The descendants of an old one are no longer recorded, even if they came at the greatest tick.
func TestExpireForgetsDescendants(t *testing.T) {
	family := row(spot(0), 3)
	ids := idsOf(family...)
	g := graphOf(t, paid{family[0], 1}, paid{family[1], 1}, paid{family[2], 1})
	a := evict.NewAges()
	came(t, a, 1, ids[0])
	came(t, a, math.MaxInt, ids[1], ids[2], hash(1))
	if l := a.Expire(g, 2); !equal(l, family) || a.Len() != 1 || g.Len() != 0 {
		t.Errorf("Expire is %x, and leaves %d ids and %d transactions", idsOf(l...), a.Len(), g.Len())
	}
	a.Gone(hash(1))
	if a.Len() != 0 {
		t.Errorf("Len is %d", a.Len())
	}
}

// Children of an old one that isn't in the graph any more stay.
func TestExpireOfWhatIsNotThere(t *testing.T) {
	family := row(spot(0), 3)
	ids := idsOf(family...)
	g := graphOf(t, paid{family[1], 1}, paid{family[2], 1})
	a := evict.NewAges()
	came(t, a, 1, ids[0])
	came(t, a, 2, ids[1])
	expireIs(t, "an id that isn't there", a, g, bookOf(a), 2)
	agesIs(t, "an id that isn't there", a, book{{ids[1], 2}})
	expireIs(t, "its child", a, g, bookOf(a), 3, family[1:]...)
}

func TestExpireWithoutGraph(t *testing.T) {
	for name, g := range map[string]*graph.Graph{"no graph": nil, "an empty graph": graph.New()} {
		a := evict.NewAges()
		came(t, a, 1, hash(1))
		came(t, a, 2, hash(2))
		expireIs(t, name, a, g, bookOf(a), 2)
		agesIs(t, name, a, book{{hash(2), 2}})
		expireIs(t, name, a, g, bookOf(a), 3)
		agesIs(t, name, a, nil)
		expireIs(t, name, a, g, nil, 3)
	}
}

func TestExpireOfAnEmptyTable(t *testing.T) {
	g := graphOf(t, paid{pay(spot(0)), 1})
	for _, before := range []int{math.MinInt, 0, math.MaxInt} {
		expireIs(t, "an empty table", evict.NewAges(), g, nil, before)
	}
}

// What is removed from the graph by other means is still recorded, and what was removed from the table is never old.
func TestTableAndGraphAreApart(t *testing.T) {
	txs := side(3)
	ids := idsOf(txs...)
	g := graphOf(t, paid{txs[0], 1}, paid{txs[1], 2}, paid{txs[2], 3})
	a := evict.NewAges()
	came(t, a, 1, ids...)
	shrinkIs(t, "three", g, 2, txs[0])
	agesIs(t, "Shrink", a, bookOf(a))
	if a.Len() != 3 {
		t.Errorf("behind Shrink, Len is %d", a.Len())
	}
	a.Gone(ids[1])
	expireIs(t, "two of three", a, g, bookOf(a), 2, txs[2])
	if !g.Has(tx.ID(txs[1])) {
		t.Error("what isn't in the table has gone")
	}
}

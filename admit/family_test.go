package admit_test

import (
	"math"
	"slices"
	"testing"

	"gossamer/admit"
	"gossamer/api"
	"gossamer/tx"
)

// familyIs holds that a transaction's families have just these sizes: its own ancestors, and the most descendants of one of these.
// With smaller limits it fails with ErrLimit, and with others it has the given error.
func familyIs(t *testing.T, name string, v admit.View, a api.Tx, ancestors, descendants int, want error) {
	t.Helper()
	for _, up := range []int{math.MinInt, -1, 0, ancestors - 1, ancestors, ancestors + 1, math.MaxInt} {
		for _, down := range []int{math.MinInt, -1, 0, descendants - 1, descendants, descendants + 1, math.MaxInt} {
			l := admit.Limits{Weight: math.MaxInt, Ancestors: up, Descendants: down}
			switch {
			case up < ancestors || down < descendants:
				fails(t, name, v, a, l, api.ErrLimit)
			case want != nil:
				fails(t, name, v, a, l, want)
			default:
				fee, err := v.Fee(a)
				if err != nil {
					t.Fatal(err)
				}
				conflicts := v.Graph.Conflicts(a)
				lookIs(t, name, v, a, l, admit.Look{Fee: fee, Weight: tx.Weight(a), Conflicts: conflicts}, nil)
			}
		}
	}
}

// putFamilyIs holds the same of a transaction without conflicts, whose coins aren't spent, and asks the graph in which it is put (P15.2).
func putFamilyIs(t *testing.T, name string, v admit.View, a api.Tx, ancestors, descendants int) {
	t.Helper()
	familyIs(t, name, v, a, ancestors, descendants, nil)
	fee, err := v.Fee(a)
	if err != nil {
		t.Fatal(err)
	}
	g := v.Graph.Copy()
	if err := g.Put(a, fee); err != nil {
		t.Fatalf("with %s, Put is %v", name, err)
	}
	up := g.Ancestors(tx.ID(a))
	most := 0
	for _, id := range up {
		most = max(most, len(g.Descendants(id)))
	}
	if len(up) != ancestors || most != descendants {
		t.Errorf("with %s, the graph has %d ancestors, and %d descendants of one; want %d and %d", name, len(up), most, ancestors, descendants)
	}
}

// first are the points of the first coins of transactions.
func first(txs ...api.Tx) []api.Point {
	var list []api.Point
	for _, a := range txs {
		list = append(list, tx.Point(a, 0))
	}
	return list
}

// P15.1, P15.2: families without conflicts

func TestFamilyOfOne(t *testing.T) {
	putFamilyIs(t, "an empty graph", viewOf(t), pay(1, spot(0)), 1, 1)
	v := viewOf(t, row(spot(1), 5)...)
	putFamilyIs(t, "others in the graph", v, pay(1, spot(0), spot(2)), 1, 1)
	familyIs(t, "no graph", admit.View{Coins: v.Coins}, pay(1, spot(0)), 1, 1, nil)
	familyIs(t, "nothing but coins", admit.View{Coins: v.Coins}, pay(1, spot(1)), 1, 1, nil)
}

func TestRows(t *testing.T) {
	for n := 1; n <= 9; n++ {
		txs := row(spot(0), n)
		v := viewOf(t, txs...)
		putFamilyIs(t, "a child of a row's last one", v, pay(1, tx.Point(txs[n-1], 0)), n+1, n+1)
		slices.Reverse(txs)
		v = viewOf(t, txs...)
		putFamilyIs(t, "a child of a row's last one, put in the other order", v, pay(1, tx.Point(txs[0], 0)), n+1, n+1)
	}
}

// The usual limits are eight: the eighth of a row comes in, and the ninth doesn't.
func TestUsualFamilies(t *testing.T) {
	l := admit.Usual()
	l.Per = 0
	txs := row(spot(0), 9)
	passes(t, "the eighth of a row", viewOf(t, txs[:7]...), txs[7], l, 1)
	fails(t, "the ninth of a row", viewOf(t, txs[:8]...), txs[8], l, api.ErrLimit)
	a := making([]api.Point{spot(0)}, 9, 9, 9, 9, 9, 9, 9, 9)
	children := []api.Tx{a}
	for n := range 7 {
		passes(t, "one of seven children", viewOf(t, children...), pay(1, tx.Point(a, n)), l, 8)
		children = append(children, pay(1, tx.Point(a, n)))
	}
	fails(t, "the eighth child", viewOf(t, children...), pay(1, tx.Point(a, 7)), l, api.ErrLimit)
}

func TestFamilies(t *testing.T) {
	a := making([]api.Point{spot(0)}, 900, 800, 700, 600)
	b, c := making([]api.Point{tx.Point(a, 0)}, 400, 300), making([]api.Point{tx.Point(a, 1)}, 400, 300)
	d := making([]api.Point{tx.Point(b, 0), tx.Point(c, 0)}, 100, 100)
	e := making([]api.Point{spot(1)}, 500, 400, 300)
	f, g := pay(20, tx.Point(e, 0)), pay(10, tx.Point(e, 1))
	h := pay(9, tx.Point(g, 0))
	v := viewOf(t, a, b, c, d, e, f, g, h)
	for name, x := range map[string]struct {
		points                 []api.Point
		ancestors, descendants int
	}{
		"a child of a":                       {[]api.Point{tx.Point(a, 2)}, 2, 5},
		"a child of a by two coins":          {[]api.Point{tx.Point(a, 3), tx.Point(a, 2)}, 2, 5},
		"a child of b":                       {[]api.Point{tx.Point(b, 1)}, 3, 5},
		"a child of b and of its parent":     {[]api.Point{tx.Point(b, 1), tx.Point(a, 2)}, 3, 5},
		"a child of b and c":                 {[]api.Point{tx.Point(b, 1), tx.Point(c, 1)}, 4, 5},
		"a child of d, which has two ways":   {[]api.Point{tx.Point(d, 0)}, 5, 5},
		"a child of d, and of all above it":  {[]api.Point{tx.Point(d, 1), tx.Point(c, 1), tx.Point(b, 1), tx.Point(a, 3)}, 5, 5},
		"a child of e":                       {[]api.Point{tx.Point(e, 2)}, 2, 5},
		"a child of f":                       {[]api.Point{tx.Point(f, 0)}, 3, 5},
		"a child of h":                       {[]api.Point{tx.Point(h, 0)}, 4, 5},
		"a child of e and a":                 {[]api.Point{tx.Point(e, 2), tx.Point(a, 3)}, 3, 5},
		"a child of h and d":                 {[]api.Point{tx.Point(h, 0), spot(3), tx.Point(d, 1)}, 8, 5},
		"a child of f and h":                 {[]api.Point{tx.Point(f, 0), tx.Point(h, 0)}, 5, 5},
		"a child of nobody":                  {[]api.Point{spot(2), spot(3)}, 1, 1},
		"a child of f, h, d and c with more": {[]api.Point{tx.Point(f, 0), tx.Point(h, 0), spot(4), tx.Point(d, 0), tx.Point(c, 1), spot(5)}, 9, 5},
	} {
		putFamilyIs(t, name, v, pay(1, x.points...), x.ancestors, x.descendants)
	}
}

// The most descendants are those of one ancestor of several, wherever it is.
func TestDescendantsOfOneAncestor(t *testing.T) {
	for busy := range 4 {
		var txs, children []api.Tx
		for i := range 4 {
			a := making([]api.Point{spot(i)}, 9, 9, 9, 9)
			txs = append(txs, a)
			if i == busy {
				children = []api.Tx{pay(1, tx.Point(a, 1)), pay(2, tx.Point(a, 2)), pay(3, tx.Point(a, 3))}
			}
		}
		a := pay(1, first(txs...)...)
		putFamilyIs(t, "four parents, of which one has children", viewOf(t, slices.Concat(txs, children)...), a, 5, 5)
		putFamilyIs(t, "four parents, put behind the children of one", viewOf(t, slices.Concat(children, txs)...), a, 5, 5)
	}
}

// A parent whose coins are in the coin set, too, is a parent no less; by a point of which it has no coin it isn't one.
func TestParentsAreThoseOfTheGraph(t *testing.T) {
	a := making([]api.Point{spot(0)}, 50, 60)
	b := pay(1, tx.Point(a, 1))
	v := viewOf(t, a, b)
	gives(t, v, tx.Point(a, 0), coin(70, "k"))
	gives(t, v, tx.Point(a, 2), coin(80, "k"))
	putFamilyIs(t, "a coin that both have", v, pay(1, tx.Point(a, 0)), 2, 3)
	putFamilyIs(t, "a coin of the coin set alone", v, pay(1, tx.Point(a, 2)), 1, 1)
	putFamilyIs(t, "one coin of each", v, pay(1, tx.Point(a, 2), tx.Point(b, 0)), 3, 3)
}

// What is above a transaction that was removed doesn't count, as the graph doesn't have it.
func TestFamiliesWithGaps(t *testing.T) {
	txs := row(spot(0), 6)
	v := viewOf(t, txs...)
	v.Graph.Remove(tx.ID(txs[2]))
	putFamilyIs(t, "a row with a gap", v, pay(1, tx.Point(txs[5], 0)), 4, 4)
}

// A new transaction's own children, put ahead of it, aren't counted as anyone's descendants.
func TestChildrenAheadOfTheirParent(t *testing.T) {
	txs := row(spot(0), 5)
	v := viewOf(t, txs[0], txs[1], txs[3], txs[4])
	familyIs(t, "a row's middle", v, txs[2], 3, 3, nil)
	v = viewOf(t, txs[1:]...)
	familyIs(t, "a row's head", v, txs[0], 1, 1, nil)
}

// P15.1: families with conflicts

func TestConflictsAreNotCounted(t *testing.T) {
	a := making([]api.Point{spot(0)}, 900, 800, 700)
	rival := making([]api.Point{tx.Point(a, 0), spot(1)}, 400, 300)
	below := pay(200, tx.Point(rival, 0))
	other := pay(200, tx.Point(a, 1))
	mixed := pay(100, tx.Point(other, 0), tx.Point(rival, 1))
	v := viewOf(t, a, rival, below, other, mixed)
	familyIs(t, "the rival of a child", v, pay(1, tx.Point(a, 0)), 2, 3, nil)
	familyIs(t, "the rival of two children", v, pay(1, tx.Point(a, 0), tx.Point(a, 1)), 2, 2, nil)
	familyIs(t, "the rival of a child by a point beside its parent", v, pay(1, spot(1), tx.Point(a, 2)), 2, 3, nil)
	familyIs(t, "the rival of a child that has other parents", v, pay(1, spot(1)), 1, 1, nil)
	familyIs(t, "the rival of the lowest", v, pay(1, tx.Point(other, 0)), 3, 5, nil)
	familyIs(t, "the rival of the lowest, by the other parent", v, pay(1, tx.Point(rival, 1)), 3, 5, nil)
	familyIs(t, "the rival of the highest", v, pay(1, spot(0)), 1, 1, nil)
	putFamilyIs(t, "nobody's rival", v, pay(1, tx.Point(a, 2)), 2, 6)
	// The same, with the children ahead of their parents.
	v = viewOf(t, mixed, below, other, rival, a)
	familyIs(t, "the rival of a child, put ahead", v, pay(1, tx.Point(a, 0)), 2, 3, nil)
	familyIs(t, "the rival of two children, put ahead", v, pay(1, tx.Point(a, 0), tx.Point(a, 1)), 2, 2, nil)
}

// What was too many is not any more if the new one takes their place.
func TestReplacingMakesRoom(t *testing.T) {
	l := admit.Usual()
	l.Per = 0
	txs := row(spot(0), 8)
	v := viewOf(t, txs...)
	for i := range 8 {
		a := clone(txs[i])
		a.Coins[0].Value--
		passes(t, "a rival in a full row", v, resigned(a), l, valueOf(v, a.Spends[0].From)-a.Coins[0].Value, txs[i])
	}
}

func valueOf(v admit.View, p api.Point) int {
	c, _ := v.Coin(p)
	return c.Value
}

// P15.1: ancestors that conflict

func TestConflictsAmongAncestors(t *testing.T) {
	txs := row(spot(0), 4)
	a, b, c, d := txs[0], txs[1], txs[2], txs[3]
	v := viewOf(t, txs...)
	for name, x := range map[string]struct {
		points                 []api.Point
		ancestors, descendants int
	}{
		"its parent":                                   {[]api.Point{spot(0), tx.Point(a, 0)}, 1, 1},
		"its grandparent":                              {[]api.Point{tx.Point(b, 0), spot(0)}, 1, 1},
		"the parent of its grandparent's parent":       {[]api.Point{tx.Point(d, 0), spot(0)}, 1, 1},
		"its parent, which has a parent":               {[]api.Point{tx.Point(a, 0), tx.Point(b, 0)}, 2, 2},
		"its grandparent, which has a parent":          {[]api.Point{tx.Point(c, 0), tx.Point(a, 0)}, 2, 2},
		"its parent, which has two ancestors":          {[]api.Point{tx.Point(b, 0), tx.Point(c, 0)}, 3, 3},
		"its parent and an ancestor of that":           {[]api.Point{tx.Point(d, 0), tx.Point(c, 0), tx.Point(a, 0)}, 2, 2},
		"the highest one, with a coin of each of them": {[]api.Point{tx.Point(d, 0), spot(0), spot(9)}, 1, 1},
	} {
		familyIs(t, "a conflict with "+name, v, pay(1, x.points...), x.ancestors, x.descendants, api.ErrSpent)
	}
}

// Ancestors that aren't conflicts, but descendants of one: what stays of the graph above them is counted.
func TestDescendantsOfConflictsAmongAncestors(t *testing.T) {
	rival := making([]api.Point{spot(0)}, 500, 400)
	side := making([]api.Point{spot(1)}, 500, 400)
	child := making([]api.Point{tx.Point(rival, 0), tx.Point(side, 0)}, 300, 200)
	lower := pay(100, tx.Point(child, 0))
	for _, v := range []admit.View{viewOf(t, rival, side, child, lower), viewOf(t, lower, child, side, rival)} {
		familyIs(t, "a child of a conflict's child", v, pay(1, spot(0), tx.Point(child, 1)), 2, 2, api.ErrSpent)
		familyIs(t, "a child of a conflict's grandchild", v, pay(1, spot(0), tx.Point(lower, 0)), 2, 2, api.ErrSpent)
		familyIs(t, "a child of both parents of its conflict", v, pay(1, tx.Point(rival, 0), tx.Point(side, 1)), 3, 2, nil)
		familyIs(t, "a child of a conflict and of its parent", v, pay(1, tx.Point(rival, 0), tx.Point(child, 1)), 3, 2, api.ErrSpent)
		familyIs(t, "a child of what has nothing to do with its conflict", v, pay(1, spot(0), tx.Point(side, 1)), 2, 2, nil)
	}
}

// A conflict that spends a coin of the new one is a child of it, and no ancestor.
func TestConflictThatIsAChild(t *testing.T) {
	a := pay(500, spot(0))
	child := pay(400, tx.Point(a, 0), spot(0))
	v := viewOf(t, child, pay(300, tx.Point(child, 0)))
	familyIs(t, "a conflict that is a child", v, a, 1, 1, nil)
	if x, err := v.Look(a, free()); err != nil || !slices.Equal(x.Conflicts, idsOf(child)) {
		t.Errorf("a conflict that is a child: Look is %v, %v", x, err)
	}
}

// P15.2: what passes without conflicts can be put, with whatever was there before.
func TestWhatPassesCanBePut(t *testing.T) {
	v := viewOf(t)
	points := spots(3)
	for i := range 60 {
		p := points[i%len(points)]
		a := making([]api.Point{p}, (valueOf(v, p)-1)/2, (valueOf(v, p)-1)/2)
		x, err := v.Look(a, admit.Limits{Weight: 1800, Ancestors: 60, Descendants: 60})
		if err != nil || len(x.Conflicts) > 0 {
			t.Fatalf("the transaction %v doesn't pass: %v, %v", a, x, err)
		}
		puts(t, v, a, x.Fee)
		fails(t, "what was just put", v, a, free(), api.ErrDup)
		points[i%len(points)] = tx.Point(a, 0)
		points = append(points, tx.Point(a, 1))
	}
	if v.Graph.Len() != 60 {
		t.Errorf("the graph has %d transactions, want 60", v.Graph.Len())
	}
}

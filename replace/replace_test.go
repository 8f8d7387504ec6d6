package replace_test

import (
	"math"
	"slices"
	"strings"
	"testing"

	"gossamer/admit"
	"gossamer/api"
	"gossamer/coins"
	"gossamer/graph"
	"gossamer/lock"
	"gossamer/replace"
	"gossamer/tx"
)

// P16.1: Goes

func TestGoes(t *testing.T) {
	a := making([]api.Point{spot(0)}, 900, 800, 700)
	b, c := pay(500, tx.Point(a, 0), spot(1)), making([]api.Point{tx.Point(a, 1)}, 400, 300)
	d := pay(300, tx.Point(b, 0), tx.Point(c, 0))
	e := pay(200, spot(2))
	for name, list := range map[string][]api.Tx{
		"parents ahead":  {a, b, c, d, e},
		"children ahead": {e, d, c, b, a},
		"mixed":          {c, d, e, a, b},
	} {
		g := viewOf(t, list...).Graph
		for _, x := range []struct {
			points []api.Point
			goes   []api.Tx
		}{
			{nil, nil},
			{[]api.Point{spot(3)}, nil},
			{[]api.Point{tx.Point(a, 2), tx.Point(c, 1), tx.Point(d, 0), tx.Point(e, 0)}, nil},
			{[]api.Point{tx.Point(a, 3), {Tx: tx.ID(a), N: -1}, {N: math.MaxInt}, {N: math.MinInt}}, nil},
			{[]api.Point{spot(2)}, []api.Tx{e}},
			{[]api.Point{spot(2), spot(2)}, []api.Tx{e}},
			{[]api.Point{tx.Point(b, 0)}, []api.Tx{d}},
			{[]api.Point{spot(1)}, []api.Tx{b, d}},
			{[]api.Point{spot(1), tx.Point(a, 0)}, []api.Tx{b, d}},
			{[]api.Point{tx.Point(a, 1), spot(1)}, []api.Tx{b, c, d}},
			{[]api.Point{tx.Point(c, 0), tx.Point(a, 1)}, []api.Tx{c, d}},
			{[]api.Point{spot(0)}, []api.Tx{a, b, c, d}},
			{[]api.Point{spot(2), tx.Point(b, 0), spot(0), spot(5)}, []api.Tx{a, b, c, d, e}},
		} {
			ids := slices.DeleteFunc(idsOf(list...), func(id api.Hash) bool { return !slices.Contains(idsOf(x.goes...), id) })
			goesIs(t, name, g, making(x.points, 1), ids...)
		}
	}
}

func TestGoesOfNothing(t *testing.T) {
	a := pay(5, spot(0))
	goesIs(t, "no graph", nil, a)
	goesIs(t, "an empty graph", graph.New(), a)
	goesIs(t, "no spends", viewOf(t, a).Graph, api.Tx{})
}

// A transaction that is in the graph isn't a conflict of itself, whatever its witnesses.
func TestGoesOfOneThatIsThere(t *testing.T) {
	list := row(spot(0), 3)
	g := viewOf(t, list...).Graph
	for _, a := range list {
		goesIs(t, "one of the graph", g, a)
		a = clone(a)
		a.Spends[0].Key += "more"
		goesIs(t, "one of the graph with another witness", g, a)
	}
}

// P16.1: transactions without conflicts

func TestWithoutConflicts(t *testing.T) {
	list := row(spot(0), 3)
	v := viewOf(t, list...)
	for _, step := range []int{math.MinInt, -1, 0, 1, 1000, 1 << 20, 1<<20 + 1, math.MaxInt} {
		replaces(t, "nobody's rival", v, bid(v, 0, spot(1)), step)
		replaces(t, "a child of two", v, bid(v, 5, tx.Point(list[2], 0), spot(1)), step)
		replaces(t, "one in an empty graph", viewOf(t), firm(pay(5, spot(0))), step)
	}
}

// Check asks what it is given: without conflicts in there, it returns nothing.
func TestCheckWithoutConflicts(t *testing.T) {
	a := firm(pay(5, spot(0)))
	v := viewOf(t, a)
	for _, rival := range []api.Tx{{}, pay(5, spot(1)), pay(9, spot(0)), a} {
		for _, step := range []int{math.MinInt, -1, 0, 1000, math.MaxInt} {
			for _, x := range []admit.Look{{}, {Conflicts: []api.Hash{}}, {Fee: 7, Weight: 8}, {Fee: -1, Weight: math.MinInt, Missing: []api.Point{spot(0)}}} {
				checkIs(t, "no conflicts", v, rival, x, step, nil, nil)
				checkIs(t, "no conflicts and no graph", admit.View{}, rival, x, step, nil, nil)
			}
		}
	}
}

// P16.1: condition 1

func TestFirmConflicts(t *testing.T) {
	for n := 1; n <= 4; n++ {
		for one := range n {
			var list []api.Tx
			var points []api.Point
			for i := range n {
				a := pay(5000, spot(i))
				if i == one {
					a = firm(a)
				}
				list, points = append(list, a), append(points, spot(n-1-i))
			}
			v := viewOf(t, list...)
			refuses(t, "a firm conflict", v, bid(v, 9000, points...), 0, api.ErrSpent)
			refuses(t, "a firm conflict of a firm one", v, firm(bid(v, 9000, points...)), 0, api.ErrSpent)
			list[one].Firm = false
			list[one] = resigned(list[one])
			v = viewOf(t, list...)
			replaces(t, "no firm conflict", v, bid(v, 9000, points...), 0, list...)
		}
	}
}

// Only conflicts are asked, and neither their families nor the new transaction.
func TestOthersMayBeFirm(t *testing.T) {
	parent := firm(making([]api.Point{spot(0)}, 5000, 4000))
	conflict := making([]api.Point{tx.Point(parent, 0)}, 3000, 1000)
	child, grandchild := firm(pay(2000, tx.Point(conflict, 0))), firm(pay(900, tx.Point(conflict, 1)))
	v := viewOf(t, parent, conflict, child, grandchild, firm(pay(5, spot(1))))
	a := bid(v, 1000, tx.Point(parent, 0))
	replaces(t, "a firm family", v, a, 0, conflict, child, grandchild)
	replaces(t, "a firm family, by a firm one", v, firm(a), 0, conflict, child, grandchild)
	refuses(t, "a firm conflict", v, bid(v, 1000, tx.Point(conflict, 0)), 0, api.ErrSpent)
}

// P16.1: condition 2

func TestMostGone(t *testing.T) {
	if replace.MostGone != 20 {
		t.Errorf("MostGone is %d, want 20", replace.MostGone)
	}
	for n := 1; n <= 40; n++ {
		list := row(spot(0), n)
		v := viewOf(t, list...)
		a := bid(v, 9000, spot(0))
		if n <= 20 {
			replaces(t, "a row", v, a, 0, list...)
		} else {
			refuses(t, "a row that is too long", v, a, 0, api.ErrLimit)
			replaces(t, "a row's last 20", v, bid(v, 2500, list[n-20].Spends[0].From), 0, list[n-20:]...)
			refuses(t, "a row's last 21", v, bid(v, 2500, list[n-21].Spends[0].From), 0, api.ErrLimit)
		}
	}
}

// Eight conflicts have up to 20 descendants together, themselves included, and what descends from two of them counts once.
func TestMostGoneOfSeveral(t *testing.T) {
	var list []api.Tx
	var points, ends []api.Point
	for i := range 8 {
		rows := row(spot(i), 2)
		list, points, ends = append(list, rows...), append(points, spot(i)), append(ends, tx.Point(rows[1], 0))
	}
	list = append(list, row(spot(20), 5)...)
	points[7], ends[7] = spot(20), tx.Point(list[20], 0)
	common := row(ends[0], 2)
	common[0] = pay(5, ends...)
	common[1] = pay(4, tx.Point(common[0], 0))
	most := slices.Concat(list[:14], list[16:], common[:1])
	v := viewOf(t, most...)
	replaces(t, "20 of several rows", v, bid(v, 90000, points...), 0, most...)
	puts(t, v, common[1], 5)
	refuses(t, "21 of several rows", v, bid(v, 90000, points...), 0, api.ErrLimit)
	v.Graph.Remove(tx.ID(list[19]))
	most = slices.Concat(list[:14], list[16:19])
	replaces(t, "several rows with a gap", v, bid(v, 90000, points...), 0, slices.Concat(most, common)...)
}

// P16.1: condition 3

// home is a view in which a grandparent has a parent, that one and another parent have a conflict, which has a child, and a stranger stands aside.
type home struct {
	grandparent, parent, other, conflict, child, stranger, confirmed api.Tx
	view                                                             admit.View
}

func homeOf(t *testing.T) home {
	t.Helper()
	var h home
	h.grandparent = making([]api.Point{spot(0)}, 90000, 800)
	h.parent = making([]api.Point{tx.Point(h.grandparent, 0)}, 50000, 600)
	h.other = making([]api.Point{spot(1)}, 50000, 600)
	h.stranger = making([]api.Point{spot(2)}, 50000, 600, 500)
	h.conflict = making([]api.Point{tx.Point(h.parent, 0), tx.Point(h.other, 0), spot(3)}, 40000, 600)
	h.child = pay(30000, tx.Point(h.conflict, 0), tx.Point(h.stranger, 1))
	h.confirmed = making([]api.Point{spot(4)}, 50000, 600)
	h.view = viewOf(t, h.grandparent, h.parent, h.other, h.stranger, h.conflict, h.child)
	if _, err := h.view.Coins.Do(h.confirmed); err != nil {
		t.Fatal(err)
	}
	return h
}

func TestNewParents(t *testing.T) {
	h := homeOf(t)
	for name, x := range map[string]struct {
		points []api.Point
		isNew  bool
	}{
		"a parent":                       {[]api.Point{tx.Point(h.parent, 0)}, false},
		"both parents":                   {[]api.Point{tx.Point(h.other, 0), tx.Point(h.parent, 0)}, false},
		"no parents":                     {[]api.Point{spot(3)}, false},
		"a coin besides":                 {[]api.Point{spot(3), spot(9)}, false},
		"a parent's other coin":          {[]api.Point{spot(3), tx.Point(h.parent, 1)}, false},
		"another parent's other coin":    {[]api.Point{tx.Point(h.parent, 0), tx.Point(h.other, 1), spot(9)}, false},
		"a coin of a block besides":      {[]api.Point{spot(3), tx.Point(h.confirmed, 0), tx.Point(h.confirmed, 1)}, false},
		"a stranger":                     {[]api.Point{spot(3), tx.Point(h.stranger, 0)}, true},
		"a stranger first":               {[]api.Point{tx.Point(h.stranger, 0), tx.Point(h.parent, 1), spot(3)}, true},
		"the child's stranger":           {[]api.Point{tx.Point(h.stranger, 1), spot(3), tx.Point(h.stranger, 0)}, false},
		"a stranger between the parents": {[]api.Point{tx.Point(h.parent, 0), tx.Point(h.stranger, 0), tx.Point(h.other, 0)}, true},
		"the grandparent":                {[]api.Point{spot(3), tx.Point(h.grandparent, 1)}, true},
		"the grandparent and the parent": {[]api.Point{tx.Point(h.parent, 0), tx.Point(h.parent, 1), tx.Point(h.grandparent, 1)}, true},
	} {
		if x.isNew {
			refuses(t, name, h.view, bid(h.view, 20000, x.points...), 0, api.ErrSpent)
		} else {
			replaces(t, name, h.view, bid(h.view, 20000, x.points...), 0, h.conflict, h.child)
		}
	}
}

// A conflict isn't a parent of itself. (Look wouldn't let such a transaction pass.)
func TestConflictsAsParents(t *testing.T) {
	h := homeOf(t)
	x := admit.Look{Fee: 20000, Weight: 230, Conflicts: idsOf(h.conflict)}
	checkIs(t, "a child of its conflict", h.view, bid(h.view, 20000, spot(3), tx.Point(h.conflict, 1)), x, 0, nil, api.ErrSpent)
	checkIs(t, "a child of its conflict's child", h.view, bid(h.view, 20000, spot(3), tx.Point(h.child, 0)), x, 0, nil, api.ErrSpent)
}

// Of several conflicts, each may have what another one has as a parent.
func TestParentsOfSeveralConflicts(t *testing.T) {
	var parents, conflicts []api.Tx
	for i := range 3 {
		parents = append(parents, making([]api.Point{spot(i)}, 50000, 40000))
		conflicts = append(conflicts, pay(20000, tx.Point(parents[i], 0), spot(10+i)))
	}
	v := viewOf(t, slices.Concat(parents, conflicts)...)
	for i := range 3 {
		both := []api.Tx{conflicts[i%3], conflicts[(i+1)%3]}
		if i == 2 {
			both = []api.Tx{conflicts[0], conflicts[2]}
		}
		points := []api.Point{spot(10 + i), spot(10 + (i+1)%3)}
		replaces(t, "nobody's child", v, bid(v, 20000, points...), 0, both...)
		for k := range 3 {
			a := bid(v, 20000, append(slices.Clone(points), tx.Point(parents[k], 1))...)
			if k == (i+2)%3 {
				refuses(t, "a child of another one's parent", v, a, 0, api.ErrSpent)
			} else {
				replaces(t, "a child of a conflict's parent", v, a, 0, both...)
			}
		}
	}
}

// Only the graph's coins make parents, wherever the coin set has coins.
func TestParentsAreThoseOfTheGraph(t *testing.T) {
	stranger := pay(5000, spot(0))
	conflict := pay(5000, spot(1))
	v := viewOf(t, stranger, conflict)
	// The stranger has one coin, and isn't a parent by the second one's point; with its coin in both, it is.
	gives(t, v, api.Point{Tx: tx.ID(stranger), N: 1}, coin(7000))
	replaces(t, "a coin of the coin set alone", v, bid(v, 900, spot(1), api.Point{Tx: tx.ID(stranger), N: 1}), 0, conflict)
	gives(t, v, tx.Point(stranger, 0), coin(7000))
	refuses(t, "a coin of both", v, bid(v, 900, spot(1), tx.Point(stranger, 0)), 0, api.ErrSpent)
	v.Graph.Remove(tx.ID(stranger))
	replaces(t, "a coin of a former transaction of the graph", v, bid(v, 900, spot(1), tx.Point(stranger, 0)), 0, conflict)
}

// A conflict that spends a point that a transaction of the graph doesn't have isn't its child.
func TestParentsOfConflictsAreThoseOfTheGraph(t *testing.T) {
	stranger := pay(5000, spot(0))
	conflict := pay(5000, spot(1), api.Point{Tx: tx.ID(stranger), N: 1})
	v := viewOf(t, stranger, conflict)
	refuses(t, "a child of the stranger", v, bid(v, 3000, spot(1), tx.Point(stranger, 0)), 0, api.ErrSpent)
	replaces(t, "nobody's child", v, bid(v, 3000, spot(1)), 0, conflict)
}

// P16.1: the order of the conditions

func TestOrderOfConditions(t *testing.T) {
	for bits := range 16 {
		isFirm, isMany, isNew, isPoor := bits&1 != 0, bits&2 != 0, bits&4 != 0, bits&8 != 0
		stranger := pay(50000, spot(1))
		n, points, fee := 20, []api.Point{spot(0)}, 200000
		if isMany {
			n++
		}
		list := row(spot(0), n)
		if isFirm {
			list[0] = firm(list[0])
			list = append(list[:1], row(tx.Point(list[0], 0), n-1)...)
		}
		if isNew {
			points = append(points, tx.Point(stranger, 0))
		}
		if isPoor {
			fee = n * 100
		}
		v := viewOf(t, append(slices.Clone(list), stranger)...)
		a := bid(v, fee, points...)
		switch {
		case isFirm || !isMany && isNew:
			refuses(t, "a firm conflict or a new parent", v, a, 0, api.ErrSpent)
		case isMany:
			refuses(t, "too many", v, a, 0, api.ErrLimit)
		case isPoor:
			refuses(t, "too low a fee", v, a, 0, api.ErrFee)
		default:
			replaces(t, "nothing of that", v, a, 0, list...)
		}
	}
}

// P16.1: errors of Look come first, and with ErrOrphan there are missing points

func TestErrorsOfLook(t *testing.T) {
	list := row(spot(0), 9)
	v := viewOf(t, append(slices.Clone(list), firm(pay(5, spot(1))))...)
	low := free()
	low.Per = 1000
	small := free()
	small.Weight = 100
	few := free()
	few.Ancestors = 3
	badly := pay(5, spot(0), spot(1))
	badly.Spends[1].Seal++
	long := clone(badly)
	long.Spends[1].Key = strings.Repeat("k", 33)
	orphan := pay(5, spot(60), spot(1), tx.Point(list[2], 1), spot(0), spot(61))
	fails(t, "nothing", v, api.Tx{}, free(), api.ErrForm)
	fails(t, "no coins", v, making([]api.Point{spot(1)}), free(), api.ErrForm)
	fails(t, "a long key", v, long, free(), api.ErrForm)
	fails(t, "a negative value", v, pay(-1, spot(1)), free(), api.ErrValue)
	fails(t, "a point spent twice", v, pay(1, spot(1), spot(1)), free(), api.ErrSpent)
	fails(t, "one that is there", v, list[3], free(), api.ErrDup)
	fails(t, "points without coins", v, orphan, free(), api.ErrOrphan, spot(60), tx.Point(list[2], 1), spot(61))
	fails(t, "a wrong seal", v, badly, free(), api.ErrWitness)
	fails(t, "a negative fee", v, bid(v, -1, spot(1)), free(), api.ErrValue)
	fails(t, "too great a weight", v, bid(v, 500, spot(1)), small, api.ErrLimit)
	fails(t, "too low a fee", v, bid(v, 229, spot(1)), low, api.ErrFee)
	fails(t, "too many ancestors", v, bid(v, 500, tx.Point(list[2], 0)), few, api.ErrLimit)
	fails(t, "a conflict among the ancestors", v, bid(v, 500, spot(0), tx.Point(list[8], 0)), free(), api.ErrSpent)
	fails(t, "no coins at all", admit.View{Graph: graph.New()}, pay(5, spot(1)), free(), api.ErrOrphan, spot(1))
}

// The limits are those of Look, and the step is one of the conflicts alone.
func TestLimitsAndStep(t *testing.T) {
	v := viewOf(t, pay(5000, spot(0)))
	l := admit.Usual()
	a, b := bid(v, 230, spot(1)), bid(v, 330, spot(0))
	x, _ := v.Look(a, l)
	y, _ := v.Look(b, l)
	tryIs(t, "the least fee", v, a, l, 1<<20, x, nil, nil)
	tryIs(t, "the least fee and the step", v, b, l, 1000, y, y.Conflicts, nil)
	tryIs(t, "the least fee and a greater step", v, b, l, 1001, admit.Look{}, nil, api.ErrFee)
	l.Per = 1001
	fails(t, "less than the least fee", v, a, l, api.ErrFee)
	doIs(t, "the least fee and the step", v, b, l, 1000, []api.Tx{pay(5000, spot(0))}, nil, stateOf(v).after(b, 330, y.Conflicts))
}

// P16.1: views without parts

func TestViewsWithoutGraph(t *testing.T) {
	v := admit.View{Coins: viewOf(t).Coins}
	for _, step := range []int{math.MinInt, 0, 1000, math.MaxInt} {
		a := bid(v, 500, spot(0))
		x, err := v.Look(a, free())
		if err != nil {
			t.Fatal(err)
		}
		checkIs(t, "no graph", v, a, x, step, nil, nil)
		tryIs(t, "no graph", v, a, free(), step, x, nil, nil)
		doIs(t, "no graph", v, a, free(), step, nil, api.ErrNone, stateOf(v))
	}
	fails(t, "no graph", v, pay(5, spot(70)), free(), api.ErrOrphan, spot(70))
	fails(t, "no graph and an invalid transaction", v, api.Tx{}, free(), api.ErrForm)
	fails(t, "no graph and a low fee", v, bid(v, 1, spot(0)), admit.Usual(), api.ErrFee)
	fails(t, "nothing", admit.View{}, pay(5, spot(0)), free(), api.ErrOrphan, spot(0))
	fails(t, "nothing and an invalid transaction", admit.View{}, api.Tx{}, free(), api.ErrForm)
}

func TestViewsWithoutCoins(t *testing.T) {
	a := making([]api.Point{spot(0)}, 5000, 4000)
	b := pay(3000, tx.Point(a, 0))
	v := admit.View{Graph: graph.New()}
	puts(t, v, a, 100)
	puts(t, v, b, 100)
	replaces(t, "no coin set", v, bid(v, 2500, tx.Point(a, 0)), 1000, b)
	replaces(t, "no coin set and no conflict", v, bid(v, 0, tx.Point(a, 1)), 1000)
	fails(t, "no coin set", v, pay(5, spot(0)), free(), api.ErrOrphan, spot(0))
}

// Conflicts that aren't in the graph come from no Look: none of them can be outbid, and nothing panics.
func TestConflictsThatAreNotThere(t *testing.T) {
	a := pay(5000, spot(0))
	v := viewOf(t, a)
	for name, list := range map[string][]api.Hash{
		"a stranger":                        {{1}},
		"a stranger twice":                  {{1}, {1}},
		"a conflict and a stranger":         {tx.ID(a), {1}},
		"a stranger and a conflict":         {{1}, tx.ID(a)},
		"21 strangers with a conflict last": append(make([]api.Hash, 21), tx.ID(a)),
	} {
		x := admit.Look{Fee: 9000, Weight: 230, Conflicts: list}
		checkIs(t, name, v, bid(v, 9000, spot(0)), x, 0, nil, api.ErrFee)
		checkIs(t, name+", no graph", admit.View{Coins: v.Coins}, bid(v, 9000, spot(0)), x, 0, nil, api.ErrFee)
	}
	x := admit.Look{Fee: 9000, Weight: 230, Conflicts: idsOf(a, a, a)}
	checkIs(t, "a conflict three times", v, bid(v, 9000, spot(0)), x, 0, idsOf(a), nil)
}

// P16.2: what was put in the place of others can be replaced itself, and the fees grow each time.
func TestReplacingAgainAndAgain(t *testing.T) {
	v := viewOf(t, row(spot(0), 5)...)
	for i := range 200 {
		fee := 500 + 230*(i+1)
		a := bid(v, fee, spot(0))
		if _, err := replace.Do(v, bid(v, fee-1, spot(0)), admit.Usual(), 1000); err != api.ErrFee {
			t.Errorf("with less than the step, Do is %v", err)
		}
		if _, err := replace.Do(v, a, admit.Usual(), 1000); err != nil {
			t.Fatalf("the replacement %d can't be done: %v", i, err)
		}
		standsAlone(t, "the replacement", v.Graph, a)
		if now := stateOf(v).fees(); now != fee || v.Graph.Len() != 1 {
			t.Errorf("behind the replacement %d, there are %d transactions with the fees %d", i, v.Graph.Len(), now)
		}
	}
}

// The chapter's example.
func TestExample(t *testing.T) {
	v := admit.View{Coins: coins.New(), Graph: graph.New()}
	gives(t, v, spot(0), api.Coin{Value: 1000, Lock: lock.Lock("k")})
	puts(t, v, pay(700, spot(0)), 300)
	refuses(t, "the fee 200", v, bid(v, 200, spot(0)), 0, api.ErrFee)
	replaces(t, "the fee 400", v, bid(v, 400, spot(0)), 0, pay(700, spot(0)))
}

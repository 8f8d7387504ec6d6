package coins_test

import (
	"slices"
	"testing"

	"gossamer/api"
	"gossamer/coins"
)

// spared is an equal transaction whose lists have spare capacity with more spends and coins in it.
func spared(a api.Tx) api.Tx {
	spends := slices.Concat(a.Spends, []api.Spend{{Seal: 991}, {Seal: 992}})
	own := slices.Concat(a.Coins, []api.Coin{{Lock: 993}, {Lock: 994}})
	return api.Tx{Spends: spends[:len(a.Spends)], Coins: own[:len(a.Coins)], Firm: a.Firm}
}

// whole is a spared transaction with what its spare capacity holds.
func whole(a api.Tx) api.Tx {
	return api.Tx{Spends: a.Spends[:len(a.Spends)+2], Coins: a.Coins[:len(a.Coins)+2], Firm: a.Firm}
}

// sparedUndo is the same of what undoes a transaction.
func sparedUndo(u coins.Undo) coins.Undo {
	list := slices.Concat(u.Coins, []api.Coin{{Lock: 995}, {Lock: 996}})
	return coins.Undo{Tx: spared(u.Tx), Coins: list[:len(u.Coins)]}
}

func wholeUndo(u coins.Undo) coins.Undo {
	return coins.Undo{Tx: whole(u.Tx), Coins: u.Coins[:len(u.Coins)+2]}
}

// cloneUndo is an equal one that shares no memory with u.
func cloneUndo(u coins.Undo) coins.Undo {
	return coins.Undo{Tx: clone(u.Tx), Coins: slices.Clone(u.Coins)}
}

// fill overwrites all elements up to the capacity.
func fill[E any](list []E, with E) {
	for i := range list[:cap(list)] {
		list[:cap(list)][i] = with
	}
}

// spoil overwrites all that a transaction's lists hold, up to their capacity.
func spoil(a api.Tx) {
	fill(a.Spends, api.Spend{From: api.Point{Tx: api.Hash{0x55}, N: 5}, Key: "spoilt", Seal: 0x55})
	fill(a.Coins, api.Coin{Value: 0x55, Lock: 0x55})
}

func spoilUndo(u coins.Undo) {
	spoil(u.Tx)
	fill(u.Coins, api.Coin{Value: 0x55, Lock: 0x55})
}

// P12.3: arguments aren't modified

func TestCallsLeaveTheirArguments(t *testing.T) {
	s, points := purse(t)
	txs := []api.Tx{three(points), three(points[1:]), paying(points[3], 10, "a"), paying(points[3], 100, "a")}
	for _, c := range invalid() {
		txs = append(txs, c.tx)
	}
	for _, a := range txs {
		given, want := spared(a), clone(whole(spared(a)))
		s.Fee(given)
		u, err := s.Do(given)
		if err != nil {
			u = undoOf(a, make([]api.Coin, len(a.Spends))...)
		}
		back, wantBack := sparedUndo(u), cloneUndo(wholeUndo(sparedUndo(u)))
		s.Back(back)
		s.Back(back)
		if !equal(whole(given), want) || !equalUndo(wholeUndo(back), wantBack) {
			t.Errorf("an argument was changed: %v or %v", given, back)
		}
	}
}

// P12.3: arguments aren't retained

func TestDoKeepsNothing(t *testing.T) {
	s, points := purse(t)
	a := three(points)
	given := spared(a)
	u := does(t, "three spends", s, given, coin(5, "b"), coin(0, ""), coin(10, "a"))
	want, wantUndo := content(s), cloneUndo(u)
	spoil(given)
	unchanged(t, "a change of the argument of Do", s, want)
	if !equalUndo(u, wantUndo) {
		t.Errorf("a change of the argument of Do shows in what it returned: %v", u)
	}
	spoilUndo(u)
	unchanged(t, "a change of what Do returned", s, want)
	backIs(t, "what Do returned, from elsewhere", s, wantUndo, nil)
}

func TestBackKeepsNothing(t *testing.T) {
	s, points := purse(t)
	was := content(s)
	given := sparedUndo(does(t, "three spends", s, three(points), coin(5, "b"), coin(0, ""), coin(10, "a")))
	backIs(t, "three spends", s, given, nil)
	spoilUndo(given)
	unchanged(t, "a change of the argument of Back", s, was)
}

// P12.3: results are newly allocated

func TestDoReturnsNewMemory(t *testing.T) {
	s, points := purse(t)
	given := spared(three(points))
	want := clone(whole(given))
	u := does(t, "three spends", s, given, coin(5, "b"), coin(0, ""), coin(10, "a"))
	wantUndo := cloneUndo(u)
	other := s.Copy()
	u.Tx.Spends = append(u.Tx.Spends, api.Spend{Key: "more"})
	u.Tx.Coins = append(u.Tx.Coins, api.Coin{Value: 9})
	u.Coins = append(u.Coins, api.Coin{Value: 9})
	spoilUndo(u)
	if !equal(whole(given), want) {
		t.Errorf("a change of what Do returned shows in its argument: %v", given)
	}
	unchanged(t, "a change of what Do returned", other, content(s))
	backIs(t, "the right undo", s, wantUndo, nil)
	again := does(t, "the same again", s, given, coin(5, "b"), coin(0, ""), coin(10, "a"))
	if !equalUndo(again, wantUndo) {
		t.Errorf("the second time, Do returns %v", again)
	}
}

// No two lists of what Do returns share memory, nor does one reach into another's by its spare capacity.
func TestListsOfUndoAreApart(t *testing.T) {
	undo := func() coins.Undo {
		s, points := purse(t)
		return does(t, "three spends", s, three(points), coin(5, "b"), coin(0, ""), coin(10, "a"))
	}
	want, one, two := undo(), undo(), undo()
	fill(one.Tx.Coins, api.Coin{Value: 0x55})
	if !slices.Equal(one.Coins, want.Coins) {
		t.Errorf("a change of the transaction's coins shows in the spent ones: %v", one.Coins)
	}
	fill(two.Coins, api.Coin{Value: 0x55})
	if !slices.Equal(two.Tx.Coins, want.Tx.Coins) {
		t.Errorf("a change of the spent coins shows in the transaction's: %v", two.Tx.Coins)
	}
}

func TestPointsAreNewMemory(t *testing.T) {
	want := ordered()
	s := setOf(t, want...)
	one, two := s.Points(), s.Points()
	fill(one, api.Point{Tx: hash(0x55), N: 55})
	if !slices.Equal(two, want) {
		t.Error("a change of some points shows in others")
	}
	pointsAre(t, "a set whose points were changed", s, want...)
	_ = append(two[:3], api.Point{N: 99})
	pointsAre(t, "a set to whose points some were appended", s, want...)
}

// P12.1, P12.3: Copy

func TestCopiesAreIndependent(t *testing.T) {
	s, points := purse(t)
	was := content(s)
	a := three(points)
	one := s.Copy()
	two := one.Copy()
	unchanged(t, "a copy", one, was)
	u := does(t, "three spends", s, a, coin(5, "b"), coin(0, ""), coin(10, "a"))
	after := content(s)
	unchanged(t, "what is done on the first set", one, was)
	putIs(t, "a copy", one, api.Point{N: 6}, coin(1, "x"), nil)
	unchanged(t, "what is put into a copy", s, after)
	unchanged(t, "what is put into a copy", two, was)
	does(t, "the copy of a copy", two, a, u.Coins...)
	unchanged(t, "what is done on the copy of a copy", one, was.with(api.Point{N: 6}, coin(1, "x")))
	// What one set returned undoes it on another one, too.
	backIs(t, "the undo of another set", two, u, nil)
	unchanged(t, "what is undone on a copy", s, after)
	unchanged(t, "what is undone on a copy", two, was)
	putIs(t, "the first set", s, api.Point{N: 7}, coin(2, "y"), nil)
	getIs(t, "a copy", one, api.Point{N: 7}, api.Coin{}, false)
	getIs(t, "another copy", two, api.Point{N: 7}, api.Coin{}, false)
}

func TestCopyOfAnEmptySet(t *testing.T) {
	s := coins.New()
	other := s.Copy()
	putIs(t, "the copy of an empty set", other, api.Point{}, coinNumbered(0), nil)
	sizeIs(t, "the empty set", s, 0)
	putIs(t, "the empty set", s, api.Point{N: 1}, coinNumbered(1), nil)
	pointsAre(t, "the copy", other, api.Point{})
	if s.Copy() == s {
		t.Error("a copy is the set itself")
	}
}

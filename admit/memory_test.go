package admit_test

import (
	"slices"
	"testing"

	"gossamer/admit"
	"gossamer/api"
	"gossamer/tx"
)

// spared is an equal transaction whose lists have spare capacity with more spends and coins in it.
func spared(a api.Tx) api.Tx {
	spends := slices.Concat(a.Spends, []api.Spend{{Seal: 991}, {Seal: 992}})
	made := slices.Concat(a.Coins, []api.Coin{{Lock: 993}, {Lock: 994}})
	return api.Tx{Spends: spends[:len(a.Spends)], Coins: made[:len(a.Coins)], Firm: a.Firm}
}

// whole is a spared transaction with what its spare capacity holds.
func whole(a api.Tx) api.Tx {
	return api.Tx{Spends: a.Spends[:len(a.Spends)+2], Coins: a.Coins[:len(a.Coins)+2], Firm: a.Firm}
}

// fill overwrites all elements up to the capacity.
func fill[E any](list []E, with E) {
	for i := range list[:cap(list)] {
		list[:cap(list)][i] = with
	}
}

// spoil overwrites all that a transaction's lists hold, up to their capacity.
func spoil(a api.Tx) {
	fill(a.Spends, api.Spend{From: api.Point{Tx: api.Hash{0x55}, N: 5}, Key: "spoilt", Seal: 0x55})
	fill(a.Coins, api.Coin{Value: 0x55, Lock: 0x55})
}

// spoilLook overwrites all that the lists of a result hold.
func spoilLook(x admit.Look) {
	fill(x.Conflicts, api.Hash{0x55})
	fill(x.Missing, api.Point{Tx: api.Hash{0x55}, N: 5})
}

func cloneLook(x admit.Look) admit.Look {
	return admit.Look{Fee: x.Fee, Weight: x.Weight, Conflicts: slices.Clone(x.Conflicts), Missing: slices.Clone(x.Missing)}
}

// clan is a view, and transactions with all sorts of results.
func clan(t *testing.T) (admit.View, []api.Tx) {
	t.Helper()
	a := making([]api.Point{spot(0)}, 4000, 3000, 2000)
	b, c := pay(2000, tx.Point(a, 0)), pay(1000, tx.Point(a, 1), spot(1))
	list := []api.Tx{
		a, twin(b), pay(500, spot(2)), pay(500, spot(0)), pay(500, tx.Point(a, 1), tx.Point(a, 0), spot(2)),
		pay(1, spot(40), spot(3), spot(41), tx.Point(a, 5)), pay(500, spot(1), tx.Point(c, 0)), pay(500, tx.Point(b, 0), tx.Point(a, 2)),
		pay(api.MaxMoney, spot(5)), twin(pay(500, spot(5))),
	}
	for _, e := range invalid() {
		list = append(list, e.tx)
	}
	return viewOf(t, a, b, c), list
}

// limits are some limits, which give several results.
func limits() []admit.Limits {
	return []admit.Limits{
		free(), admit.Usual(), {}, {Per: 1000, Weight: 4000, Ancestors: 2, Descendants: 3},
		{Per: 1 << 20, Weight: 4000, Ancestors: 8, Descendants: 8},
	}
}

// P15.3: arguments aren't modified

func TestCallsLeaveTheirArguments(t *testing.T) {
	v, list := clan(t)
	was := stateOf(v)
	for _, a := range list {
		given, want := spared(a), clone(whole(spared(a)))
		v.Missing(given)
		v.Fee(given)
		for _, l := range limits() {
			v.Look(given, l)
		}
		if !equal(whole(given), want) {
			t.Errorf("an argument was changed: %v, want %v", whole(given), want)
		}
		unchanged(t, "all calls", v, was)
	}
}

// P15.3: arguments aren't retained, and results are new memory

func TestResultsAreApartFromArguments(t *testing.T) {
	v, list := clan(t)
	was := stateOf(v)
	for _, a := range list {
		for _, l := range limits() {
			given := spared(a)
			got, err := v.Look(given, l)
			missing := v.Missing(given)
			want, wantMissing := cloneLook(got), slices.Clone(missing)
			spoil(given)
			if !sameLook(got, want) || !slices.Equal(missing, wantMissing) {
				t.Errorf("a change of the argument shows in the results %v and %v", got, missing)
			}
			unchanged(t, "a change of the argument", v, was)
			given = spared(a)
			if again, againErr := v.Look(given, l); !sameLook(again, want) || againErr != err {
				t.Errorf("Look is %v, %v the second time, want %v, %v", again, againErr, want, err)
			}
			spoilLook(got)
			fill(missing, api.Point{N: 5})
			if !equal(whole(given), clone(whole(spared(a)))) {
				t.Errorf("a change of the result shows in the argument %v", given)
			}
			unchanged(t, "a change of the result", v, was)
		}
	}
}

func TestResultsAreNewMemory(t *testing.T) {
	v, list := clan(t)
	conflicts, missing := 0, 0
	for _, a := range list {
		for _, l := range limits() {
			one, err := v.Look(a, l)
			two, _ := v.Look(a, l)
			want := cloneLook(two)
			conflicts, missing = conflicts+len(want.Conflicts), missing+len(want.Missing)
			spoilLook(one)
			if !sameLook(two, want) {
				t.Errorf("a change of what Look returned shows in another result: %v, want %v", two, want)
			}
			lookIs(t, "a change of what Look returned", v, a, l, want, err)
		}
		one, two := v.Missing(a), v.Missing(a)
		want := slices.Clone(two)
		fill(one, api.Point{N: 5})
		if !slices.Equal(two, want) {
			t.Errorf("a change of what Missing returned shows in another result: %v, want %v", two, want)
		}
		missingIs(t, "a change of what Missing returned", v, a, want...)
	}
	if conflicts == 0 || missing == 0 {
		t.Errorf("there are %d conflicts and %d missing points, too few for a test", conflicts, missing)
	}
}

// What was returned doesn't follow the view.
func TestResultsStayAsTheyAre(t *testing.T) {
	v, list := clan(t)
	var looks []admit.Look
	for _, a := range list {
		x, _ := v.Look(a, free())
		looks = append(looks, x)
	}
	var want []admit.Look
	for _, x := range looks {
		want = append(want, cloneLook(x))
	}
	v.Graph.Remove(v.Graph.IDs()...)
	gives(t, v, spot(40), coin(5, "k"))
	if !slices.EqualFunc(looks, want, sameLook) {
		t.Errorf("what Look returned follows the view: %v, want %v", looks, want)
	}
}

// The view keeps nothing: what it tells follows its coins and its graph.
func TestViewsFollowTheirParts(t *testing.T) {
	v := viewOf(t)
	a := pay(4000, spot(0))
	b := pay(1000, tx.Point(a, 0))
	lookIs(t, "a child without its parent", v, b, free(), admit.Look{Missing: first(a)}, api.ErrOrphan)
	puts(t, v, a, 6000)
	passes(t, "a child with its parent", v, b, free(), 3000)
	v.Graph.Remove(tx.ID(a))
	lookIs(t, "a child whose parent was removed", v, b, free(), admit.Look{Missing: first(a)}, api.ErrOrphan)
	undo, err := v.Coins.Do(a)
	if err != nil {
		t.Fatal(err)
	}
	passes(t, "a child whose parent is in the coin set", v, b, free(), 3000)
	fails(t, "the parent", v, a, free(), api.ErrDup)
	if err := v.Coins.Back(undo); err != nil {
		t.Fatal(err)
	}
	lookIs(t, "a child whose parent was undone", v, b, free(), admit.Look{Missing: first(a)}, api.ErrOrphan)
	passes(t, "the parent that was undone", v, a, free(), 6000)
}

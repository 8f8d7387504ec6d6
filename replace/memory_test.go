package replace_test

import (
	"slices"
	"testing"

	"gossamer/admit"
	"gossamer/api"
	"gossamer/replace"
	"gossamer/tx"
)

// spared is an equal transaction whose lists have spare capacity with more spends and coins in it.
func spared(a api.Tx) api.Tx {
	spends := slices.Concat(a.Spends, []api.Spend{{Seal: 991}, {Seal: 992}})
	made := slices.Concat(a.Coins, []api.Coin{{Lock: 993}, {Lock: 994}})
	return api.Tx{Spends: spends[:len(a.Spends)], Coins: made[:len(a.Coins)], Firm: a.Firm}
}

// whole is a spared transaction with what its spare capacity holds.
func whole(a api.Tx) api.Tx {
	return api.Tx{Spends: a.Spends[:len(a.Spends)+2], Coins: a.Coins[:len(a.Coins)+2], Firm: a.Firm}
}

// sparedLook is an equal result whose lists have spare capacity with more in it.
func sparedLook(x admit.Look) admit.Look {
	conflicts := slices.Concat(x.Conflicts, []api.Hash{{91}, {92}})
	missing := slices.Concat(x.Missing, []api.Point{{N: 91}, {N: 92}})
	return admit.Look{Fee: x.Fee, Weight: x.Weight, Conflicts: conflicts[:len(x.Conflicts)], Missing: missing[:len(x.Missing)]}
}

// wholeLook is a spared result with what its spare capacity holds.
func wholeLook(x admit.Look) admit.Look {
	return admit.Look{Fee: x.Fee, Weight: x.Weight, Conflicts: x.Conflicts[:len(x.Conflicts)+2], Missing: x.Missing[:len(x.Missing)+2]}
}

func cloneLook(x admit.Look) admit.Look {
	return admit.Look{Fee: x.Fee, Weight: x.Weight, Conflicts: slices.Clone(x.Conflicts), Missing: slices.Clone(x.Missing)}
}

// fill overwrites all elements up to the capacity.
func fill[E any](list []E, with E) {
	for i := range list[:cap(list)] {
		list[:cap(list)][i] = with
	}
}

// spoil overwrites all that a transaction's lists hold, up to their capacity.
func spoil(a api.Tx) {
	fill(a.Spends, api.Spend{From: api.Point{Tx: api.Hash{0x55}, N: 5}, Key: "spoilt", Seal: 0x55})
	fill(a.Coins, api.Coin{Value: 0x55, Lock: 0x55})
}

// spoilLook overwrites all that the lists of a result hold.
func spoilLook(x admit.Look) {
	fill(x.Conflicts, api.Hash{0x55})
	fill(x.Missing, api.Point{Tx: api.Hash{0x55}, N: 5})
}

// clan is a view, and transactions with all sorts of results.
func clan(t *testing.T) (admit.View, []api.Tx) {
	t.Helper()
	h := homeOf(t)
	v := h.view
	puts(t, v, firm(pay(5, spot(20))), 5)
	list := []api.Tx{
		{}, h.child, bid(v, 0, spot(9)), bid(v, 20000, spot(3)), bid(v, 20000, spot(3), tx.Point(h.parent, 1), spot(9)),
		bid(v, 20000, tx.Point(h.stranger, 0), spot(3)), bid(v, 20000, spot(20), spot(21)), bid(v, 200, spot(3)), bid(v, 201, spot(0)),
		bid(v, 20000, spot(0)), bid(v, 20000, spot(1), spot(2)), bid(v, 20000, tx.Point(h.conflict, 0), tx.Point(h.stranger, 1)),
		pay(5, spot(70), spot(3), spot(71)), pay(5, spot(3), tx.Point(h.child, 0)), pay(1, spot(3), spot(3)),
	}
	return v, list
}

// P16.3: arguments aren't modified

func TestCallsLeaveTheirArguments(t *testing.T) {
	v, list := clan(t)
	was := stateOf(v)
	for _, a := range list {
		for _, step := range []int{-1, 0, 1000} {
			x, _ := v.Look(a, free())
			given, look := spared(a), sparedLook(x)
			replace.Goes(v.Graph, given)
			replace.Check(v, given, look, step)
			replace.Try(v, given, free(), step)
			stateIs(t, "calls that only ask", v, was)
			replace.Do(copied(v), given, free(), step)
			stateIs(t, "a call on a copy", v, was)
			if !equal([]api.Tx{whole(given)}, []api.Tx{whole(spared(a))}) {
				t.Errorf("an argument was changed: %v, want %v", whole(given), whole(spared(a)))
			}
			if !sameLook(wholeLook(look), wholeLook(sparedLook(x))) {
				t.Errorf("an argument was changed: %v, want %v", wholeLook(look), wholeLook(sparedLook(x)))
			}
		}
	}
}

// Do changes the graph alone, and with an error not even that.
func TestDoChangesTheGraphAlone(t *testing.T) {
	v, list := clan(t)
	done, failed := 0, 0
	for _, a := range list {
		w := copied(v)
		was := stateOf(w)
		x, goes, err := replace.Try(w, a, free(), 0)
		if err != nil {
			failed++
			doIs(t, "an error", w, a, free(), 0, nil, err, was)
			continue
		}
		done++
		var gone []api.Tx
		for _, id := range goes {
			b, _ := w.Graph.Get(id)
			gone = append(gone, b)
		}
		doIs(t, "no error", w, a, free(), 0, gone, nil, was.after(a, x.Fee, goes))
	}
	if done < 5 || failed < 5 {
		t.Errorf("%d transactions were done and %d weren't, too few for a test", done, failed)
	}
}

// P16.3: arguments aren't retained, and results are new memory

func TestDoKeepsNothing(t *testing.T) {
	v, list := clan(t)
	for _, a := range list {
		w := copied(v)
		given := spared(a)
		x, goes, err := replace.Try(w, given, free(), 0)
		if err != nil {
			continue
		}
		want := stateOf(w).after(a, x.Fee, goes)
		gone, err := replace.Do(w, given, free(), 0)
		if err != nil {
			t.Fatal(err)
		}
		before := cloneAll(gone)
		spoil(given)
		stateIs(t, "a change of the argument", w, want)
		if !equal(gone, before) {
			t.Errorf("a change of the argument shows in the result %v, want %v", gone, before)
		}
		for i, b := range gone {
			spoil(b)
			if !equal(gone[i+1:], before[i+1:]) {
				t.Errorf("a change of one transaction shows in another one: %v, want %v", gone[i+1:], before[i+1:])
			}
		}
		stateIs(t, "a change of the result", w, want)
		if _, err := replace.Do(copied(v), a, free(), 0); err != nil {
			t.Errorf("Do is %v the second time", err)
		}
	}
}

func TestResultsAreApartFromArguments(t *testing.T) {
	v, list := clan(t)
	was := stateOf(v)
	for _, a := range list {
		x, _ := v.Look(a, free())
		given, look := spared(a), sparedLook(x)
		goes := replace.Goes(v.Graph, given)
		gone, err := replace.Check(v, given, look, 0)
		wantGoes, wantGone := slices.Clone(goes), slices.Clone(gone)
		spoil(given)
		spoilLook(look)
		if !slices.Equal(goes, wantGoes) || !slices.Equal(gone, wantGone) {
			t.Errorf("a change of the arguments shows in the results %x and %x", goes, gone)
		}
		given, look = spared(a), sparedLook(x)
		if again, againErr := replace.Check(v, given, look, 0); !slices.Equal(again, wantGone) || againErr != err {
			t.Errorf("Check is %x, %v the second time, want %x, %v", again, againErr, wantGone, err)
		}
		gone, _ = replace.Check(v, given, look, 0)
		fill(gone, api.Hash{0x55})
		fill(goes, api.Hash{0x55})
		if !equal([]api.Tx{whole(given)}, []api.Tx{whole(spared(a))}) || !sameLook(wholeLook(look), wholeLook(sparedLook(x))) {
			t.Errorf("a change of the results shows in the arguments %v and %v", given, look)
		}
		goesIs(t, "a change of what Goes returned", v.Graph, a, wantGoes...)
		checkIs(t, "a change of what Check returned", v, a, x, 0, wantGone, err)
		stateIs(t, "a change of the results", v, was)
	}
}

// The lists of what Try returns share no memory with one another, nor with those of another call.
func TestResultsOfTryAreNewMemory(t *testing.T) {
	v, list := clan(t)
	was := stateOf(v)
	replaced, missing := 0, 0
	for _, a := range list {
		given := spared(a)
		x, goes, err := replace.Try(v, given, free(), 0)
		want, wantGoes := cloneLook(x), slices.Clone(goes)
		replaced, missing = replaced+len(goes), missing+len(x.Missing)
		spoil(given)
		if !sameLook(x, want) || !slices.Equal(goes, wantGoes) {
			t.Errorf("a change of the argument shows in the results %v and %x", x, goes)
		}
		other, otherGoes, _ := replace.Try(v, a, free(), 0)
		fill(goes, api.Hash{0x55})
		if !sameLook(x, want) {
			t.Errorf("a change of what goes shows in what was seen: %v, want %v", x, want)
		}
		spoilLook(x)
		if !sameLook(other, want) || !slices.Equal(otherGoes, wantGoes) {
			t.Errorf("a change of the results shows in others: %v and %x, want %v and %x", other, otherGoes, want, wantGoes)
		}
		tryIs(t, "a change of what Try returned", v, a, free(), 0, want, wantGoes, err)
		stateIs(t, "a change of what Try returned", v, was)
	}
	if replaced < 5 || missing < 2 {
		t.Errorf("%d transactions are replaced and %d points missing, too few for a test", replaced, missing)
	}
}

// What was returned doesn't follow the view.
func TestResultsStayAsTheyAre(t *testing.T) {
	v, list := clan(t)
	a := list[3]
	goes := replace.Goes(v.Graph, a)
	x, tried, _ := replace.Try(v, a, free(), 0)
	checked, _ := replace.Check(v, a, x, 0)
	want, wantLook := slices.Clone(goes), cloneLook(x)
	gone, err := replace.Do(v, a, free(), 0)
	wantGone := cloneAll(gone)
	if err != nil || len(gone) != 2 || len(goes) != 2 {
		t.Fatalf("what goes is %x, and what is gone %v, %v", goes, gone, err)
	}
	v.Graph.Remove(v.Graph.IDs()...)
	if !slices.Equal(goes, want) || !slices.Equal(tried, want) || !slices.Equal(checked, want) || !sameLook(x, wantLook) || !equal(gone, wantGone) {
		t.Errorf("results follow the view: %x, %x, %x, %v, %v", goes, tried, checked, x, gone)
	}
}

package lock_test

import (
	"slices"
	"testing"

	"gossamer/api"
	"gossamer/lock"
)

// spared is an equal transaction whose lists have spare capacity with more spends and coins in it.
func spared(a api.Tx) api.Tx {
	spends := slices.Concat(a.Spends, []api.Spend{{Seal: 991}, {Seal: 992}})
	coins := slices.Concat(a.Coins, []api.Coin{{Lock: 993}, {Lock: 994}})
	return api.Tx{Spends: spends[:len(a.Spends)], Coins: coins[:len(a.Coins)], Firm: a.Firm}
}

// whole is a spared transaction with what its spare capacity holds.
func whole(a api.Tx) api.Tx {
	return api.Tx{Spends: a.Spends[:len(a.Spends)+2], Coins: a.Coins[:len(a.Coins)+2], Firm: a.Firm}
}

// fill overwrites all elements up to the capacity.
func fill[E any](list []E, with E) {
	for i := range list[:cap(list)] {
		list[:cap(list)][i] = with
	}
}

// spoil overwrites all that a transaction's lists hold, up to their capacity.
func spoil(a api.Tx) {
	fill(a.Spends, api.Spend{From: api.Point{Tx: api.Hash{0x55}, N: 5}, Key: "spoilt", Seal: 0x55})
	fill(a.Coins, api.Coin{Value: 0x55, Lock: 0x55})
}

// samples are transactions with some spends and coins, and with none.
func samples() []api.Tx {
	s := scatter(240)
	list := []api.Tx{{}, known(), s.tx(0, 3), s.tx(3, 0)}
	for range 20 {
		list = append(list, s.tx(1+s.below(9), 1+s.below(9)))
	}
	return list
}

// P11.3

func TestCallsLeaveTheirArguments(t *testing.T) {
	s := scatter(241)
	for _, a := range samples() {
		// With one key or coin less, and with one more out of the spare capacity, the calls fail.
		for n := max(0, len(a.Spends)-1); n <= len(a.Spends)+1; n++ {
			given, want := spared(a), clone(whole(spared(a)))
			keys := s.keys(len(a.Spends) + 3)
			coins := coinsOf(keys...)
			wantKeys, wantCoins := slices.Clone(keys), slices.Clone(coins)
			lock.Sign(given, keys[:n]...)
			lock.Check(given, coins[:n]...)
			if n == len(a.Spends) {
				lock.Check(signedBy(given, keys[:n]...), coins[:n]...)
			}
			if !equal(whole(given), want) || !slices.Equal(keys, wantKeys) || !slices.Equal(coins, wantCoins) {
				t.Errorf("with %d keys and coins, an argument beside %v was changed", n, a)
			}
		}
	}
}

func TestSignReturnsNewMemory(t *testing.T) {
	s := scatter(242)
	for _, a := range samples() {
		keys := s.keys(len(a.Spends))
		given, want := spared(a), signedBy(a, keys...)
		unchanged := clone(whole(given))
		one, err := lock.Sign(given, keys...)
		if err != nil {
			t.Fatal(err)
		}
		two, err := lock.Sign(given, keys...)
		if err != nil {
			t.Fatal(err)
		}
		spoil(one)
		if !equal(two, want) || !equal(whole(given), unchanged) {
			t.Errorf("a change of the signed %v shows elsewhere", a)
		}
		spoil(given)
		fill(keys, "spoilt")
		if !equal(two, want) {
			t.Errorf("a change of the arguments shows in the signed %v", a)
		}
	}
}

// Signing what is signed already returns new memory no less.
func TestSigningAgainReturnsNewMemory(t *testing.T) {
	s := scatter(243)
	for _, a := range samples() {
		keys := s.keys(len(a.Spends))
		once := signedBy(a, keys...)
		again, err := lock.Sign(once, keys...)
		if err != nil {
			t.Fatal(err)
		}
		spoil(again)
		if !equal(once, signedBy(a, keys...)) {
			t.Errorf("a change of what is signed again shows in the argument %v", a)
		}
	}
}

// What is appended to a signed transaction mustn't be stored behind the argument's lists.
func TestSignedHasNothingOfTheSpareCapacity(t *testing.T) {
	s := scatter(244)
	for _, a := range samples() {
		given := spared(a)
		want := clone(whole(given))
		signed, err := lock.Sign(given, s.keys(len(a.Spends))...)
		if err != nil {
			t.Fatal(err)
		}
		signed.Spends = append(signed.Spends, api.Spend{Key: "more"})
		signed.Coins = append(signed.Coins, api.Coin{Value: 9})
		if !equal(whole(given), want) {
			t.Errorf("what is appended to the signed %v shows behind the argument", a)
		}
	}
}

// The same call gives the same answer, whatever was called before and whatever became of its arguments.
func TestNothingIsKept(t *testing.T) {
	s := scatter(245)
	for _, a := range samples() {
		keys := s.keys(len(a.Spends))
		signed, coins := signedBy(a, keys...), coinsOf(keys...)
		for range 3 {
			other := spared(signed)
			checkIs(t, "the right coins", nil, other, coins...)
			spoil(other)
			if len(other.Spends) > 0 {
				checkIs(t, "spoilt spends", api.ErrWitness, other, coins...)
			}
			signIs(t, "the same keys", a, signed, keys...)
		}
	}
}

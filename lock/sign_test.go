package lock_test

import (
	"fmt"
	"math"
	"slices"
	"strings"
	"testing"

	"gossamer/api"
	"gossamer/lock"
	"gossamer/tx"
)

func signIs(t *testing.T, name string, a api.Tx, want api.Tx, keys ...string) {
	t.Helper()
	if got, err := lock.Sign(a, keys...); err != nil || !equal(got, want) {
		t.Errorf("with %s, Sign is %v, %v; want %v", name, got, err, want)
	}
}

func checkIs(t *testing.T, name string, want error, a api.Tx, coins ...api.Coin) {
	t.Helper()
	if got := lock.Check(a, coins...); got != want {
		t.Errorf("with %s, Check is %v, want %v", name, got, want)
	}
}

// P11.1: Sign

// The seals were computed by another program.
func TestKnownSignature(t *testing.T) {
	want := known()
	want.Spends[0].Key, want.Spends[0].Seal = "key", 0x8df6b62da1e2af69
	want.Spends[1].Seal = 0xda1cc3d55778691e
	signIs(t, "the known transaction", known(), want, "key", "")
	want.Spends[1].Key, want.Spends[1].Seal = "a", 0xec0d06388a3bbbfc
	signIs(t, "another key", known(), want, "key", "a")
	want.Spends[0], want.Spends[1].Seal = api.Spend{From: want.Spends[0].From, Key: "a", Seal: 0xec0d06388a3bbbfc}, 0x8df6b62da1e2af69
	want.Spends[1].Key = "key"
	signIs(t, "the keys in another order", known(), want, "a", "key")
}

func TestSign(t *testing.T) {
	s := scatter(210)
	for spends := range 12 {
		for coins := range 12 {
			a, keys := s.tx(spends, coins), s.keys(spends)
			signIs(t, "scattered keys", a, signedBy(a, keys...), keys...)
		}
	}
}

func TestSignWithOneKeyForAll(t *testing.T) {
	s := scatter(211)
	for _, key := range []string{"", "x", strings.Repeat("\xff", 32)} {
		a := s.tx(5, 2)
		signIs(t, "one key", a, signedBy(a, key, key, key, key, key), key, key, key, key, key)
	}
}

// Sign asks neither for a valid transaction nor for short keys.
func TestSignBeyondTheLimits(t *testing.T) {
	long := strings.Repeat("k", 5000)
	for _, n := range []int{math.MinInt, -1, 8, 1 << 32, math.MaxInt} {
		a := known()
		a.Spends[0].From.N, a.Coins[1].Value = n, n
		signIs(t, "a number that isn't valid", a, signedBy(a, "x", long), "x", long)
		signed := signedBy(a, "x", long)
		checkIs(t, "a number that isn't valid", nil, signed, coinsOf("x", long)...)
	}
	a := known()
	a.Spends[1].From = a.Spends[0].From
	signIs(t, "one point twice", a, signedBy(a, "x", "y"), "x", "y")
	s := scatter(212)
	a, keys := s.tx(200, 200), s.keys(200)
	signIs(t, "200 spends and coins", a, signedBy(a, keys...), keys...)
	signIs(t, "nothing", api.Tx{}, api.Tx{})
	signIs(t, "a flag alone", api.Tx{Firm: true}, api.Tx{Firm: true})
	signIs(t, "no spends", api.Tx{Coins: known().Coins}, api.Tx{Coins: known().Coins}, []string{}...)
}

func TestSignWithAWrongNumberOfKeys(t *testing.T) {
	s := scatter(213)
	for spends := range 12 {
		for keys := range 12 {
			if keys == spends {
				continue
			}
			got, err := lock.Sign(s.tx(spends, 3), s.keys(keys)...)
			if err != api.ErrRange || got.Spends != nil || got.Coins != nil || got.Firm {
				t.Errorf("with %d keys for %d spends, Sign is %v, %v", keys, spends, got, err)
			}
		}
	}
}

// P11.1: Check

func TestCheck(t *testing.T) {
	s := scatter(220)
	for spends := range 12 {
		keys := s.keys(spends)
		a, coins := signedBy(s.tx(spends, 3), keys...), coinsOf(keys...)
		checkIs(t, "the right coins", nil, a, coins...)
		for n := range 14 {
			if n != spends {
				more := slices.Concat(coins, make([]api.Coin, 14))
				checkIs(t, fmt.Sprint(n, " coins for ", spends, " spends"), api.ErrRange, a, more[:n]...)
			}
		}
	}
}

// The only spend that doesn't unlock its coin can be any one, and the one's coin can be right for another spend.
func TestCheckOfEverySpend(t *testing.T) {
	s := scatter(221)
	for i := range 9 {
		keys := s.keys(9)
		a, coins := signedBy(s.tx(9, 2), keys...), coinsOf(keys...)
		changed := clone(a)
		changed.Spends[i].Seal ^= 1 << 40
		checkIs(t, "a changed seal", api.ErrWitness, changed, coins...)
		changed = clone(a)
		changed.Spends[i].Key += "\x00"
		checkIs(t, "a changed key", api.ErrWitness, changed, coins...)
		changed.Spends[i].Seal = seal(changed.Spends[i].Key, idOf(a))
		checkIs(t, "another key and its seal", api.ErrWitness, changed, coins...)
		coins[i].Lock ^= 1 << 40
		checkIs(t, "a changed lock", api.ErrWitness, a, coins...)
		for j := range 9 {
			coins[i].Lock = first(keys[j])
			var want error
			if i != j {
				want = api.ErrWitness
			}
			checkIs(t, "the lock of a spend", want, a, coins...)
		}
	}
}

func TestCheckWithCoinsInAnotherOrder(t *testing.T) {
	a, coins := signedBy(known(), "x", "y"), coinsOf("x", "y")
	checkIs(t, "the right order", nil, a, coins...)
	checkIs(t, "the wrong order", api.ErrWitness, a, coins[1], coins[0])
	checkIs(t, "the first coin twice", api.ErrWitness, a, coins[0], coins[0])
	checkIs(t, "the last coin twice", api.ErrWitness, a, coins[1], coins[1])
	slices.Reverse(a.Spends)
	checkIs(t, "spends in another order, which changes the id", api.ErrWitness, a, coins[1], coins[0])
}

// A wrong number of coins counts before a witness.
func TestCheckTellsTheFirstError(t *testing.T) {
	a, coins := known(), coinsOf("x", "y", "z")
	checkIs(t, "no witnesses and right numbers", api.ErrWitness, a, coins[:2]...)
	checkIs(t, "no witnesses and no coins", api.ErrRange, a)
	checkIs(t, "no witnesses and too few coins", api.ErrRange, a, coins[:1]...)
	checkIs(t, "no witnesses and too many coins", api.ErrRange, a, coins...)
}

func TestCheckWithoutSpends(t *testing.T) {
	checkIs(t, "nothing", nil, api.Tx{})
	checkIs(t, "no spends", nil, api.Tx{Coins: make([]api.Coin, 2)}, []api.Coin{}...)
	checkIs(t, "no spends and its own coins", api.ErrRange, api.Tx{Coins: make([]api.Coin, 2)}, make([]api.Coin, 2)...)
	checkIs(t, "no spends and a coin", api.ErrRange, api.Tx{}, coinsOf("x")...)
}

// Neither the values of the coins that are spent nor the limits of a valid transaction count.
func TestCheckLooksAtNothingElse(t *testing.T) {
	a := signedBy(known(), "x", "y")
	for _, value := range []int{math.MinInt, -1, 0, 1 << 62, math.MaxInt} {
		coins := coinsOf("x", "y")
		coins[1].Value = value
		checkIs(t, "another value", nil, a, coins...)
	}
	s := scatter(222)
	keys := s.keys(200)
	a = signedBy(s.tx(200, 200), keys...)
	checkIs(t, "200 spends", nil, a, coinsOf(keys...)...)
	a.Spends[199].Seal++
	checkIs(t, "200 spends, the last one with a wrong seal", api.ErrWitness, a, coinsOf(keys...)...)
	a = known()
	a.Spends[1].From = a.Spends[0].From
	checkIs(t, "one point twice", nil, signedBy(a, "x", "y"), coinsOf("x", "y")...)
}

// P11.2

func TestSignedUnlocks(t *testing.T) {
	s := scatter(230)
	for range 200 {
		a := s.tx(1+s.below(8), 1+s.below(8))
		keys := s.keys(len(a.Spends))
		var coins []api.Coin
		for _, key := range keys {
			coins = append(coins, api.Coin{Value: s.below(100), Lock: lock.Lock(key)})
		}
		signed, err := lock.Sign(a, keys...)
		if err != nil {
			t.Fatal(err)
		}
		checkIs(t, "a signed transaction", nil, signed, coins...)
		for i, spend := range signed.Spends {
			opensIs(t, "a spend that was signed", spend, coins[i], tx.ID(a), true)
		}
	}
}

func TestSigningChangesWitnessesAlone(t *testing.T) {
	s := scatter(231)
	for range 200 {
		a := s.tx(s.below(10), s.below(10))
		signed, err := lock.Sign(a, s.keys(len(a.Spends))...)
		if err != nil {
			t.Fatal(err)
		}
		if tx.ID(signed) != tx.ID(a) {
			t.Errorf("signing changes the id of %v", a)
		}
		for i := range signed.Spends {
			signed.Spends[i].Key, signed.Spends[i].Seal = a.Spends[i].Key, a.Spends[i].Seal
		}
		if !equal(signed, a) {
			t.Errorf("besides the witnesses, signing makes %v of %v", signed, a)
		}
	}
}

// What was signed before, by these keys or by others, leaves no trace.
func TestSigningAgain(t *testing.T) {
	s := scatter(232)
	for range 200 {
		a := s.tx(s.below(10), s.below(10))
		keys, others := s.keys(len(a.Spends)), s.keys(len(a.Spends))
		once, err := lock.Sign(a, keys...)
		if err != nil {
			t.Fatal(err)
		}
		signIs(t, "the same keys again", once, once, keys...)
		between, err := lock.Sign(once, others...)
		if err != nil {
			t.Fatal(err)
		}
		signIs(t, "other keys between", between, once, keys...)
	}
}

// A seal holds for one id: whatever else is changed behind the signature, no spend unlocks its coin any more.
func TestChangesAfterSigning(t *testing.T) {
	for name, change := range map[string]func(a *api.Tx){
		"a point's digest": func(a *api.Tx) { a.Spends[1].From.Tx[31] ^= 1 },
		"a point's number": func(a *api.Tx) { a.Spends[0].From.N++ },
		"a value":          func(a *api.Tx) { a.Coins[1].Value++ },
		"a lock":           func(a *api.Tx) { a.Coins[0].Lock ^= 1 << 63 },
		"the flag":         func(a *api.Tx) { a.Firm = false },
		"one coin more":    func(a *api.Tx) { a.Coins = append(a.Coins, api.Coin{}) },
		"one coin less":    func(a *api.Tx) { a.Coins = a.Coins[:1] },
		"the coins' order": func(a *api.Tx) { slices.Reverse(a.Coins) },
	} {
		signed, err := lock.Sign(known(), "x", "y")
		if err != nil {
			t.Fatal(err)
		}
		coins := coinsOf("x", "y")
		checkIs(t, "nothing changed", nil, signed, coins...)
		change(&signed)
		checkIs(t, name+" changed", api.ErrWitness, signed, coins...)
		for i, spend := range signed.Spends {
			opensIs(t, name+" changed", spend, coins[i], tx.ID(signed), false)
		}
		again, err := lock.Sign(signed, "x", "y")
		if err != nil {
			t.Fatal(err)
		}
		checkIs(t, name+" changed, and signed again", nil, again, coins...)
	}
}

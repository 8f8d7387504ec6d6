package tx_test

import (
	"errors"
	"math"
	"slices"
	"strings"
	"testing"

	"gossamer/api"
	"gossamer/tx"
)

// fault is something that makes the known transaction invalid, and the error that it makes.
type fault struct {
	name  string
	apply func(a *api.Tx)
	want  error
}

// faults are faults in the order in which their errors go; each can come beside those of the other errors.
func faults() []fault {
	again := func(a *api.Tx) { a.Spends = append(a.Spends, a.Spends[0]) }
	return []fault{
		{"a key of 33 bytes", func(a *api.Tx) { a.Spends[0].Key = strings.Repeat("k", 33) }, api.ErrForm},
		{"a long key in the last spend", func(a *api.Tx) { a.Spends[len(a.Spends)-1].Key = strings.Repeat("k", 70000) }, api.ErrForm},
		{"a key of 17 letters of two bytes", func(a *api.Tx) { a.Spends[0].Key = strings.Repeat("\u00e4", 17) }, api.ErrForm},
		{"the number 8", func(a *api.Tx) { a.Spends[0].From.N = 8 }, api.ErrForm},
		{"the number -1 in the last spend", func(a *api.Tx) { a.Spends[len(a.Spends)-1].From.N = -1 }, api.ErrForm},
		{"a number whose low bytes are 1", func(a *api.Tx) { a.Spends[0].From.N = 1<<32 + 1 }, api.ErrForm},
		{"the least number", func(a *api.Tx) { a.Spends[0].From.N = math.MinInt }, api.ErrForm},
		{"the greatest number", func(a *api.Tx) { a.Spends[0].From.N = math.MaxInt }, api.ErrForm},
		{"9 coins", func(a *api.Tx) { a.Coins = append(a.Coins, make([]api.Coin, 9-len(a.Coins))...) }, api.ErrForm},
		{"300 coins", func(a *api.Tx) { a.Coins = append(a.Coins, make([]api.Coin, 300)...) }, api.ErrForm},
		{"9 spends", func(a *api.Tx) { a.Spends = append(a.Spends, others(9-len(a.Spends))...) }, api.ErrForm},
		{"264 spends", func(a *api.Tx) { a.Spends = append(a.Spends, others(264-len(a.Spends))...) }, api.ErrForm},
		{"a value of -1", func(a *api.Tx) { a.Coins[1].Value = -1 }, api.ErrValue},
		{"a value above all money", func(a *api.Tx) { a.Coins[0].Value = money + 1 }, api.ErrValue},
		{"the least value", func(a *api.Tx) { a.Coins[2].Value = math.MinInt }, api.ErrValue},
		{"the greatest value", func(a *api.Tx) { a.Coins[2].Value = math.MaxInt }, api.ErrValue},
		{"a total above all money", func(a *api.Tx) { a.Coins[1].Value = money - a.Coins[0].Value - a.Coins[2].Value + 1 }, api.ErrValue},
		{"one point twice", again, api.ErrSpent},
		{"one point three times", func(a *api.Tx) { again(a); again(a) }, api.ErrSpent},
		{"one point with two witnesses", func(a *api.Tx) {
			again(a)
			last := &a.Spends[len(a.Spends)-1]
			last.Key, last.Seal = "other", 77
		}, api.ErrSpent},
	}
}

// others are spends of n points that are all different, and different from those of the known transaction.
func others(n int) []api.Spend {
	list := make([]api.Spend, n)
	for i := range list {
		list[i].From = api.Point{Tx: api.Hash{30: byte(i / 8), 31: byte(i/2048) + 1}, N: i % 8}
	}
	return list
}

func checkIs(t *testing.T, name string, a api.Tx, want error) {
	t.Helper()
	if got := tx.Check(a); !errors.Is(got, want) {
		t.Errorf("with %s, Check is %v, want %v", name, got, want)
	}
}

// P10.1: Check

func TestCheckOfValid(t *testing.T) {
	checkIs(t, "the known transaction", known(), nil)
	checkIs(t, "the chapter's example", small(), nil)
	s := scatter(110)
	for range 1000 {
		checkIs(t, "a scattered transaction", s.valid(), nil)
	}
}

func TestCheckAtTheLimits(t *testing.T) {
	for spends := range 20 {
		for coins := range 20 {
			var want error
			if spends < 1 || spends > 8 || coins < 1 || coins > 8 {
				want = api.ErrForm
			}
			a := api.Tx{Spends: others(spends), Coins: make([]api.Coin, coins)}
			if got := tx.Check(a); !errors.Is(got, want) {
				t.Errorf("with %d spends and %d coins, Check is %v", spends, coins, got)
			}
		}
	}
	for i := range 8 {
		for _, key := range []string{"", "a", strings.Repeat("k", 31), strings.Repeat("k", 32), strings.Repeat("\u00e4", 16), strings.Repeat("\xff", 32)} {
			a := api.Tx{Spends: others(8), Coins: make([]api.Coin, 8)}
			a.Spends[i].Key = key
			checkIs(t, "a key of "+key, a, nil)
			a.Spends[i].Key = key + strings.Repeat("\x00", 33-len(key))
			checkIs(t, "a key of 33 bytes", a, api.ErrForm)
		}
		for n := range 8 {
			a := api.Tx{Spends: others(8), Coins: make([]api.Coin, 8)}
			a.Spends[i].From = api.Point{Tx: api.Hash{1}, N: n}
			checkIs(t, "a small number", a, nil)
			for _, wrong := range []int{n + 8, n - 8, n + 256, n + 1<<16, n + 1<<31, n + 1<<32, n - 1<<32, n + math.MinInt, n - 7 + math.MaxInt} {
				a.Spends[i].From.N = wrong
				checkIs(t, "a number that isn't below 8", a, api.ErrForm)
			}
		}
	}
}

func TestCheckOfValues(t *testing.T) {
	for i := range 8 {
		for _, value := range []int{0, 1, money - 1, money} {
			a := api.Tx{Spends: others(1), Coins: make([]api.Coin, 8)}
			a.Coins[i].Value = value
			checkIs(t, "an amount", a, nil)
			a.Coins[(i+3)%8].Value = money - value
			checkIs(t, "all money in two coins", a, nil)
			a.Coins[(i+5)%8].Value = 1
			checkIs(t, "more than all money in three coins", a, api.ErrValue)
			a.Coins[(i+5)%8].Value = -1
			checkIs(t, "a negative value that makes up for another", a, api.ErrValue)
		}
		for _, value := range []int{-1, -money, math.MinInt, money + 1, 1 << 62, math.MaxInt} {
			a := api.Tx{Spends: others(1), Coins: make([]api.Coin, 8)}
			a.Coins[i].Value = value
			checkIs(t, "a value that isn't an amount", a, api.ErrValue)
		}
	}
	a := api.Tx{Spends: others(1), Coins: make([]api.Coin, 8)}
	for i := range a.Coins {
		a.Coins[i].Value = money / 8
	}
	checkIs(t, "all money in eight coins", a, nil)
	a.Coins[7].Value++
	checkIs(t, "one unit more than all money in eight coins", a, api.ErrValue)
}

func TestCheckOfPoints(t *testing.T) {
	for i := range 8 {
		for j := range 8 {
			if i == j {
				continue
			}
			a := api.Tx{Spends: others(8), Coins: make([]api.Coin, 1)}
			a.Spends[j].From = a.Spends[i].From
			checkIs(t, "one point twice", a, api.ErrSpent)
			a.Spends[j].Key, a.Spends[j].Seal = "other", 5
			checkIs(t, "one point with two witnesses", a, api.ErrSpent)
			for k := range 32 {
				a.Spends[j].From.Tx = a.Spends[i].From.Tx
				a.Spends[j].From.Tx[k] ^= 0x80
				checkIs(t, "points whose digests differ in one byte", a, nil)
			}
			a.Spends[j].From = api.Point{Tx: api.Hash{7}, N: 3}
			a.Spends[i].From = api.Point{Tx: api.Hash{7}, N: 4}
			checkIs(t, "points whose numbers differ", a, nil)
			a.Spends[j].Key, a.Spends[j].Seal = a.Spends[i].Key, a.Spends[i].Seal
			checkIs(t, "equal witnesses", a, nil)
		}
	}
}

func TestCheckOfNothing(t *testing.T) {
	for _, a := range []api.Tx{
		{}, {Firm: true}, {Spends: []api.Spend{}, Coins: []api.Coin{}},
		{Spends: make([]api.Spend, 1)}, {Coins: make([]api.Coin, 1)},
		// These have other faults, too, whose errors are named later.
		{Coins: []api.Coin{{Value: -1}}}, {Spends: make([]api.Spend, 2)},
	} {
		if got := tx.Check(a); got != api.ErrForm {
			t.Errorf("Check of %v is %v", a, got)
		}
	}
}

// Of two faults, the one whose error is named first counts, in whatever order they are made.
func TestCheckTellsTheFirstError(t *testing.T) {
	for i, first := range faults() {
		a := known()
		first.apply(&a)
		checkIs(t, first.name, a, first.want)
		for _, second := range faults()[i+1:] {
			if second.want == first.want {
				continue
			}
			for _, both := range [][]fault{{first, second}, {second, first}} {
				b := known()
				both[0].apply(&b)
				both[1].apply(&b)
				checkIs(t, both[0].name+" and "+both[1].name, b, first.want)
			}
		}
	}
	a := known()
	a.Spends = slices.Repeat(a.Spends, 5)
	a.Coins[0].Value = -1
	checkIs(t, "too many spends of the same points and a negative value", a, api.ErrForm)
	a.Spends = a.Spends[:8]
	checkIs(t, "spends of the same points and a negative value", a, api.ErrValue)
	a.Coins[0].Value = 1
	checkIs(t, "spends of the same points", a, api.ErrSpent)
}

// Neither locks, seals nor the flag can make a transaction invalid.
func TestCheckLooksAtNothingElse(t *testing.T) {
	for _, word := range []uint64{0, 1, 1 << 63, math.MaxUint64} {
		for _, firm := range []bool{false, true} {
			a := known()
			a.Spends[0].Seal, a.Coins[0].Lock, a.Firm = word, word, firm
			checkIs(t, "another word", a, nil)
		}
	}
}
